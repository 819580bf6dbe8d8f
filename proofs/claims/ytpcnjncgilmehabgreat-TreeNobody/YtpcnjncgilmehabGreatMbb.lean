import Derived.Test.YtpcnjncgilmehabGreatMba
set_option linter.unusedVariables false
set_option linter.unusedSimpArgs false
set_option maxRecDepth 100000
namespace Go.Proofs.YtpcnjncgilmehabGreat.Tr
open Go.RowKit Go.Maps Go.ChangeMaps
theorem lt_of_cell {w:World} {b i:Nat} {u:Value} (h:w.cell? ⟨b,i,none⟩=some u):b<w.heap.size:=by
 rcases Nat.lt_or_ge b w.heap.size with h' |h'
 ·exact h'
 ·simp[World.cell?,Array.getElem?_eq_none h'] at h
theorem below_cell {w w':World} {b i:Nat} {u:Value} (h:w.cell? ⟨b,i,none⟩=some u) (hb:Below w.heap.size w w'):w'.cell? ⟨b,i,none⟩=some u:=(hb.cell (by exact lt_of_cell h)).trans h
section
variable {o:Oper}{a:Act}{K:Act->World->Prop}{Q:Exit->Act->World->Prop}
theorem wp_new_nd (w:World) (hop:o.op=Op.alloc 98) (h:∀ w' b,NewN w w' b zN->K (a.put o.dst (.pointer (some ⟨b,0,none⟩))) w'):o.wp Tryz.prog a w K Q:=by
 unfold Oper.wp
 simp[execOp,hop,Instr.alloc,zero_nd,Result.andThen,Value.cells]
 exact h _ _ ⟨⟨(MapKept.heap_alloc w _).1⟩,(Below.refl _ _).alloc (Nat.le_refl _) _,rfl⟩
theorem wp_put_nd {b:Nat} {s s':Nv} (w:World) (x y:Operand) (hop:o.op=Op.store 98 x y)
  (hx:a.eval x=.pointer (some ⟨b,0,none⟩)) (hy:a.eval y=.agg s'.A) (hs:NdAt w b s) (hsl:s'.sl.oneCell'=true)
  (h:∀ w',PutN w w' b s'->K (a.put o.dst undef) w'):o.wp Tryz.prog a w K Q:=by
 have h1:=nd_one hsl
 refine wp_store_mid 98 x y hop b 0 s'.A hx hy ?_ (info_nd s') (Array.all_eq_true_iff_forall_mem.2 (fun v hv=>h1 v (by simpa using hv))) ?_
 ·intro j hj
  refine⟨?_,hs.f _⟩
  rw[cell_of_row w b _ _ 98 (0,0) hs.blk]
  have:j<7:=hj
  simp[nd_size,this]
 ·rw[setCells_nd hs s' h1]
  exact h _ ⟨⟨setRow_heap w b _ _ 98 _ hs.blk⟩,⟨rfl,rfl,rfl,by simp,fun k _ hk=>setRow_other w b k _ hk⟩⟩
end
theorem off_cell {w w':World} {b c i:Nat} {u:Value} (h:w.cell? ⟨b,i,none⟩=some u) (ho:Pk.Off c w w') (hn:b≠c):w'.cell? ⟨b,i,none⟩=some u:=(World.cell?_of_block (ho.block _ (lt_of_cell h) hn)).trans h
theorem Fr.off {W W':Nat->Prop} {w w1 w2:World} {c:Nat} (h:Fr W W' w w1) (ho:Pk.Off c w1 w2) (hc:w.heap.size<=c):Fr W W' w w2 :=
 ⟨ho.os.trans h.os,ho.tape.trans h.tape,ho.output.trans h.output,Nat.le_trans h.size ho.size,fun j hj hn=>(ho.block j (Nat.lt_of_lt_of_le hj h.size) (by omega)).trans (h.blk j hj hn),h.sub⟩
theorem Bu.turn {W:Nat->Prop} {w w':World} {bb tb:Nat} {X:Ad} {k:Nat} {C:Cf} {st:Nat->Option Nat} {mk:Int} {wh:Nat->Option Nat} {b:Bm} (h:Bu W w bb tb X k C st mk wh b) (hO:∀ j,W j->w'.heap[j]?=w.heap[j]?) (hs:w.heap.size<=w'.heap.size):Bu W w' bb tb X k C st mk wh b:=by
 obtain⟨Wt,v,h0,hW⟩:=h.ex
 exact⟨Wt,v,⟨h0.tt.turn (fun j hj=>hO j ((hW j).2 (Or.inl hj))) hs,(hO _ ((hW bb).2 (Or.inr (Or.inl rfl)))).trans h0.blk,row_own_at h0.row (fun g e=>hO g ((hW g).2 (Or.inr (Or.inr e)))),h0.nb,h0.nr,h0.ul,h0.so,h0.il,h0.ip,h0.rl⟩,hW⟩
theorem Bu.off {W:Nat->Prop} {w w':World} {bb tb c:Nat} {X:Ad} {k:Nat} {C:Cf} {st:Nat->Option Nat} {mk:Int} {wh:Nat->Option Nat} {b:Bm} (h:Bu W w bb tb X k C st mk wh b) (ho:Pk.Off c w w') (hn:¬ W c):Bu W w' bb tb X k C st mk wh b:=h.turn (fun j hj=>ho.block j (h.lt hj) (fun e=>by subst e;exact hn hj)) ho.size
theorem SlW.off_ {W:Nat->Prop} {w w':World} {a c n m:Nat} {L:List Cl} (h:SlW W w (.slice (some ⟨a,0,none⟩) n m) L) (ho:Pk.Off c w w') (hc:a≠c):SlW W w' (.slice (some ⟨a,0,none⟩) n m) L:=by
 obtain⟨a',c',h0,h1,h2⟩:=h.ex
 refine⟨a',c',h0,⟨⟨fun i hi=>?_⟩,h1.room,h1.nil,h1.form⟩,h2⟩
 obtain⟨b,off,e,hb,q1,q2⟩:=h1.cs.at_ i hi
 injection h0 with e1 e2 e3
 rw[e] at e1
 injection e1 with e1
 injection e1 with e1 e4
 exact⟨b,off,e,Nat.lt_of_lt_of_le hb ho.size,off_cell q1 ho (by omega),off_cell q2 ho (by omega)⟩
theorem SlW.fr {W W':Nat->Prop} {w w':World} {v:Value} {L:List Cl} (h:SlW W w v L) (hf:Fr W W' w w'):SlW W' w' v L:=by
 obtain⟨a,c,h0,h1,h2⟩:=h.ex
 refine⟨a,c,h0,⟨⟨fun i hi=>?_⟩,h1.room,h1.nil,h1.form⟩,fun b o e hne e2=>?_⟩
 ·obtain⟨b,off,e,hb,q1,q2⟩:=h1.cs.at_ i hi
  have hn:=h2 b off e (fun e=>by subst e;exact absurd hi (Nat.not_lt_zero _))
  exact⟨b,off,e,Nat.lt_of_lt_of_le hb hf.size,(hf.cell hb hn).trans q1,(hf.cell hb hn).trans q2⟩
 ·have hn:=h2 b o e hne
  have hi:0<L.length:=List.length_pos_iff.2 hne
  obtain⟨b',off,e',hb,_⟩:=h1.cs.at_ 0 hi
  rw[e] at e'
  cases e'
  exact hf.not hb hn e2
theorem NdV.fr {W W':Nat->Prop} {w w':World} {v:Nv} {n:Nd} (h:NdV W w v n) (hf:Fr W W' w w'):NdV W' w' v n:=⟨h.id,h.tx,h.lv,h.lo,h.hi,h.nx,h.sl.fr hf⟩
section
variable {W W' Wt:Nat->Prop}{w w':World}{bb tb:Nat}{v:Value}{X:Ad}{k:Nat}{C:Cf}{st:Nat->Option Nat}{mk:Int}{wh:Nat->Option Nat}{b:Bm}
theorem Bu.c0 (h:Bu W w bb tb X k C st mk wh b):w.cell? ⟨bb,0,none⟩=some (.pointer (some ⟨tb,0,none⟩)):=by obtain⟨Wt,v,h0,hW⟩:=h.ex;exact h0.c0
theorem Bu.c1 (h:Bu W w bb tb X k C st mk wh b):w.cell? ⟨bb,1,none⟩=some (.int .i64 (b.rt:Int)):=by obtain⟨Wt,v,h0,hW⟩:=h.ex;exact h0.c1
theorem Bu.t0 (h:Bu W w bb tb X k C st mk wh b):w.cell? ⟨tb,0,none⟩=some (.pointer (some ⟨X.pb,0,none⟩)):=by
 obtain⟨Wt,v,h0,hW⟩:=h.ex
 obtain⟨W0,mb,m,q,_⟩:=h0.tt.ex
 exact q.c0
theorem Bu.pages (h:Bu W w bb tb X k C st mk wh b):Calls Tryz.prog 30 #[.pointer (some ⟨X.pb,0,none⟩)] w fun e w'=>e=.returned (.int .i64 (C.ps:Int))/\w'=w:=by
 obtain⟨Wt,v,h0,hW⟩:=h.ex
 obtain⟨W0,mb,m,q,_⟩:=h0.tt.ex
 exact q.pe.pages
theorem SlW.laid {a n:Nat} {L:List Cl} (h:Pg.Laid w a n n L) (hl:L.length=n) (ha:¬ W a):SlW W w (.slice (some ⟨a,0,none⟩) n n) L :=
 ⟨_,n,by rw[hl],⟨h.cs hl,by omega,fun e=>(by cases e),Or.inr ⟨a,0,rfl⟩⟩,fun b o e _=>by cases e;exact ha⟩
set_option maxHeartbeats 2000000 in
theorem Bu.node (h:Bu W w bb tb X k C st mk wh b) (hk:k<=260000000000) (id lv:Nat) (l:Int) (lo hi:ByteArray) (hO:Ok0 (bv C st b.im) b.us C.ps lv id lo hi) (hl:l=-1∨l=(lv:Int)) :
  Calls Tryz.prog 90 #[.pointer (some ⟨bb,0,none⟩),.int .i64 (id:Int),.int .i64 l,.agg #[.string lo,.string hi]] w fun e w'=>∃ n W',e=.returned (.tuple #[.agg n.A,.int .i64 0])/\Bu W' w' bb tb X (k+8006) C st mk wh b/\Fr W W' w w'/\NdV (fun j=>W' j∨j<w.heap.size) w' n (nodeOf id (bv C st b.im id) lo hi):=by
 have CP:Hid (∀ wx,Below w.heap.size w wx->Calls Tryz.prog 30 #[.pointer (some ⟨X.pb,0,none⟩)] wx fun e w'=>e=.returned (.int .i64 (C.ps:Int))/\w'=wx):=fun wx hb=>(h.below hb).pages
 have CU:Hid (∀ wx,Below w.heap.size w wx->Calls Tryz.prog 53 #[.pointer (some ⟨bb,1,none⟩),.int .i64 (id:Int)] wx fun e w'=>e=.returned (.bool true)/\w'=wx):=fun wx hb=>by
  have:=(h.below hb).uses id hO.i1
  rw[hO.us] at this
  exact this
 have CG:Hid (∀ wx,Below w.heap.size w wx->Calls Tryz.prog 137 #[.pointer (some ⟨bb,0,none⟩),.int .i64 (id:Int)] wx fun e w'=>e=.returned (.tuple #[.string (bv C st b.im id),.int .i64 0])/\∃ W',Bu W' w' bb tb X (k+8006) C st mk wh b/\Fr W W' wx w'):=fun wx hb=>(h.below hb).page (by omega) id hO.i1
 have hg:=hO.good
 have hlv:=hO.lv
 have hR:=hg.right
 have CL:Hid (∀ wx,Calls Tryz.prog 138 #[.string (bv C st b.im id)] wx fun e w'=>e=.returned (.int .i64 (lvl (bv C st b.im id):Nat))/\Below wx.heap.size wx w'):=fun wx=>Pg.Level_right wx _ hR
 have CC:Hid (∀ wx,Calls Tryz.prog 139 #[.string (bv C st b.im id)] wx fun e w'=>∃ a,e=.returned (.slice (some ⟨a,0,none⟩) (Pg.cnt (Pg.bts (bv C st b.im id))) (Pg.cnt (Pg.bts (bv C st b.im id))))/\Pg.Laid w' a (Pg.cnt (Pg.bts (bv C st b.im id))) (Pg.cnt (Pg.bts (bv C st b.im id))) (Pg.cells (Pg.bts (bv C st b.im id)))/\wx.heap.size<=a/\Below wx.heap.size wx w'):=fun wx=>Pg.Cells_new wx _ hR
 have HC:Hid (∀ wx,Below w.heap.size w wx->wx.cell? ⟨bb,0,none⟩=some (.pointer (some ⟨tb,0,none⟩))/\wx.cell? ⟨tb,0,none⟩=some (.pointer (some ⟨X.pb,0,none⟩))):=fun wx hb=>⟨(h.below hb).c0,(h.below hb).t0⟩
 have i0:¬ (id:Int)<=0:=by have:=hO.i0;omega
 have i1:¬ (C.ps:Int)<=(id:Int):=by have:=hO.i1;omega
 have hlt:∀ j,W j->j<w.heap.size:=fun j hj=>h.lt hj
 have HLT:Hid (∀ j,W j->j<w.heap.size):=hlt
 clear h hR hlt
 generalize ht:bv C st b.im id=t at *
 go_enter Tryz.func90,Tryz.ntmps90
 go_wp2_with (first
  | (refine wpList_new_nd _ rfl rfl ?_;intro w1 b1 N1;have hb1:Below w.heap.size w w1:=thn ((Below.refl _ _).alloc (Nat.le_refl _) _) N1.below;obtain⟨f0,f1⟩:=HC.out _ hb1)
  | (go_at_call 30;refine(CP.out _ hb1).mono ?_;rintro e w2 ⟨rfl,rfl⟩)
  | (go_at_call 53;refine(CU.out _ hb1).mono ?_;rintro e w3 ⟨rfl,rfl⟩)
  | (go_at_call 137;refine(CG.out _ hb1).mono ?_;rintro e w4 ⟨rfl,W4,B4,F4⟩))
 have hn0:¬ W w.heap.size:=fun e=>absurd (HLT.out _ e) (Nat.lt_irrefl _)
 have hsp1:w3.heap[w.heap.size]?=some (.cells #[.string lo,.string hi] 96):=(N1.below.block _ (by simp)).trans (MapKept.heap_alloc w _).1
 have hb1g:w.heap.size<=b1:=by have:=N1.eq;simp at this;omega
 have hsp4:=F4.is hsp1 hn0
 have hn4:NdAt w4 b1 zN:=N1.nd.of_block (F4.blk _ N1.nd.lt (fun e=>by have:=HLT.out _ e;omega))
 have g0:w4.cell? ⟨w.heap.size,0,none⟩=some (.string lo):=Joins.cell_of_block hsp4 0
 have g1:w4.cell? ⟨w.heap.size,1,none⟩=some (.string hi):=Joins.cell_of_block hsp4 1
 have hz4:w.heap.size<w4.heap.size:=lt_of_some hsp4
 have HNW:Hid (¬ W4 b1):=F4.not N1.nd.lt (fun e=>by have:=HLT.out _ e;omega)
 have hb14:b1<w4.heap.size:=hn4.lt
 have HN4:Hid (NdAt w4 b1 zN):=hn4
 have HB4:Hid (Bu W4 w4 bb tb X (k+8006) C st mk wh b):=B4
 have HF4:Hid (Fr W W4 w w4):=(Fr.of_below hb1 W).trans F4
 clear B4 F4 hn4 hsp1 hsp4 N1 CG CP CU HC f0 f1 hb1
 have keep0:w4.drew.cell? ⟨w.heap.size,0,none⟩=some (.string lo)/\w4.drew.cell? ⟨w.heap.size,1,none⟩=some (.string hi):=⟨g0,g1⟩
 refine wp_region_held_drew (S:=fun Wd=>Wd.cell? ⟨w.heap.size,0,none⟩=some (.string lo)/\Wd.cell? ⟨w.heap.size,1,none⟩=some (.string hi)) (by kernel_rfl) keep0 (fun hHeld=>?_)
 refine wpAnyH_take (i:=0) (oi:=_) (v:=?_) rfl (by kernel_rfl) (by kernel_rfl) (by kernel_rfl) (fun _ _ _ h=>h) (Or.inl ⟨by rfl,?_⟩) hHeld ?_
 rotate_left
 ·(intro w hSw;(try dsimp only at hSw);go_simp;(try with_reducible rfl))
 try simp only[Act.put,List.setIfInBounds_toArray,List.set_cons_zero,List.set_cons_succ,List.getElem_toArray,List.getElem_cons_succ,List.getElem_cons_zero]
 refine wpAnyH_take (i:=1) (oi:=_) (v:=?_) rfl (by kernel_rfl) (by kernel_rfl) (by kernel_rfl) (fun _ _ _ h=>h) (Or.inl ⟨by rfl,?_⟩) hHeld ?_
 rotate_left
 ·(intro w hSw;(try dsimp only at hSw);go_simp;(try with_reducible rfl))
 try simp only[Act.put,List.setIfInBounds_toArray,List.set_cons_zero,List.set_cons_succ,List.getElem_toArray,List.getElem_cons_succ,List.getElem_cons_zero]
 refine wpAnyH_take (i:=2) (oi:=_) (v:=?_) rfl (by kernel_rfl) (by kernel_rfl) (by kernel_rfl) (fun _ _ _ h=>h) (Or.inl ⟨by rfl,?_⟩) hHeld ?_
 rotate_left
 ·(intro w hSw;(try dsimp only at hSw);go_simp;(try with_reducible rfl))
 try simp only[Act.put,List.setIfInBounds_toArray,List.set_cons_zero,List.set_cons_succ,List.getElem_toArray,List.getElem_cons_succ,List.getElem_cons_zero]
 refine wpAnyH_take (i:=4) (oi:=_) (v:=?_) rfl (by kernel_rfl) (by kernel_rfl) (by kernel_rfl) (fun _ _ _ h=>h) (Or.inl ⟨by rfl,?_⟩) hHeld ?_
 rotate_left
 ·(intro w hSw;(try dsimp only at hSw);go_simp;(try with_reducible rfl))
 try simp only[Act.put,List.setIfInBounds_toArray,List.set_cons_zero,List.set_cons_succ,List.getElem_toArray,List.getElem_cons_succ,List.getElem_cons_zero]
 refine wpAnyH_take (i:=6) (oi:=_) (v:=?_) rfl (by kernel_rfl) (by kernel_rfl) (by kernel_rfl) (fun _ _ _ h=>h) (Or.inl ⟨by rfl,?_⟩) hHeld ?_
 rotate_left
 ·(intro w hSw;(try dsimp only at hSw);go_simp;(try with_reducible rfl))
 try simp only[Act.put,List.setIfInBounds_toArray,List.set_cons_zero,List.set_cons_succ,List.getElem_toArray,List.getElem_cons_succ,List.getElem_cons_zero]
 refine wpAnyH_ready (rs:=[3,8]) (by kernel_rfl) (by simp) ?_
 refine AllReadyH.cons (o:=_) rfl (fun K hK=>?_) ?_
 ·skip
  go_simp
  refine(CL.out _).mono ?_
  rintro e w5 ⟨rfl,b5⟩
  go_wp2_with fail
  refine hK.out _ _ ⟨below_cell hHeld.1 b5,below_cell hHeld.2 b5⟩ (fun hHeld=>?_)
  clear hK K
  try simp only[Act.put,List.setIfInBounds_toArray,List.set_cons_zero,List.set_cons_succ,List.getElem_toArray,List.getElem_cons_succ,List.getElem_cons_zero]
  refine wpAnyH_ready (rs:=[5,8]) (by kernel_rfl) (by simp) ?_
  refine AllReadyH.cons (o:=_) rfl (fun K hK=>?_) ?_
  ·skip
   go_simp
   refine(CC.out _).mono ?_
   rintro e w6 ⟨a6,rfl,l6,ga6,b6⟩
   go_wp2_with fail
   refine hK.out _ _ ⟨below_cell hHeld.1 b6,below_cell hHeld.2 b6⟩ (fun hHeld=>?_)
   clear hK K
   try simp only[Act.put,List.setIfInBounds_toArray,List.set_cons_zero,List.set_cons_succ,List.getElem_toArray,List.getElem_cons_succ,List.getElem_cons_zero]
   refine wpAnyH_take (i:=7) (oi:=_) (v:=?_) rfl (by kernel_rfl) (by kernel_rfl) (by kernel_rfl) (fun _ _ _ h=>h) (Or.inl ⟨by rfl,?_⟩) hHeld ?_
   rotate_left
   ·(intro w hSw;(try dsimp only at hSw);go_simp;(try with_reducible rfl))
   try simp only[Act.put,List.setIfInBounds_toArray,List.set_cons_zero,List.set_cons_succ,List.getElem_toArray,List.getElem_cons_succ,List.getElem_cons_zero]
   refine wpAnyH_ready (rs:=[8]) (by kernel_rfl) (by simp) ?_
   refine AllReadyH.cons (o:=_) rfl (fun K hK=>?_) AllReadyH.nil
   rw[if_pos (by rfl)]
   refine wp_new_nd _ rfl ?_
   intro w7 b7 N7
   refine hK.out _ _ ⟨below_cell hHeld.1 N7.below,below_cell hHeld.2 N7.below⟩ (fun hHeld=>?_)
   clear hK K
   try simp only[Act.put,List.setIfInBounds_toArray,List.set_cons_zero,List.set_cons_succ,List.getElem_toArray,List.getElem_cons_succ,List.getElem_cons_zero]
   have zz:w4.heap.size<=w5.heap.size:=b5.size
   have zz2:=b6.size
   have zz3:=N7.eq
   have hb7:Below w4.heap.size w4 w7:=thn (thn (thn ((Below.refl _ _).drew) b5) b6) N7.below
   have hl7:=l6.below N7.below
   have hg7:w4.heap.size<=b7:=by omega
   have ha7:a6≠b7:=by have:=l6.lt;omega
   have hag:w4.heap.size<=a6:=by omega
   refine wpAnyH_ready (rs:=[9]) (by kernel_rfl) (by simp) ?_
   refine AllReadyH.cons (o:=_) rfl (fun K hK=>?_) AllReadyH.nil
   rw[if_pos (by rfl)]
   refine wp_put_nd (s':=⟨(id:Int),t,(lv:Int),.slice (some ⟨a6,0,none⟩) (Pg.cnt (Pg.bts t)) (Pg.cnt (Pg.bts t)),lo,hi,0⟩) _ (.tmp 12) (.tmp 53) rfl rfl rfl (N7.nd) rfl ?_
   intro w8 P8
   refine hK.out _ _ ⟨off_cell hHeld.1 P8.off (by omega),off_cell hHeld.2 P8.off (by omega)⟩ (fun hHeld=>?_)
   clear hK K
   try simp only[Act.put,List.setIfInBounds_toArray,List.set_cons_zero,List.set_cons_succ,List.getElem_toArray,List.getElem_cons_succ,List.getElem_cons_zero]
   refine wpAnyH_done (by kernel_rfl) ?_ _
   clear hHeld
   have hb8:Below w4.heap.size w4 w8:=hb7.trans (P8.off.below hg7 hb7.size)
   have hl8:Pg.Laid w8 a6 (Pg.cnt (Pg.bts t)) (Pg.cnt (Pg.bts t)) (Pg.cells (Pg.bts t)):=by obtain⟨D,q1,q2⟩:=hl7.ex;exact⟨⟨D,(P8.off.block _ (lt_of_some q1) ha7).trans q1,q2⟩⟩
   have hsW:∀ V:Nat->Prop,¬ V a6->SlW V w8 (.slice (some ⟨a6,0,none⟩) (Pg.cnt (Pg.bts t)) (Pg.cnt (Pg.bts t))) (cs t):=fun V hV=>SlW.laid hl8 (Pg.cells_length _) hV
   have HS:Hid (∀ V:Nat->Prop,¬ V a6->SlW V w8 (.slice (some ⟨a6,0,none⟩) (Pg.cnt (Pg.bts t)) (Pg.cnt (Pg.bts t))) (cs t)):=hsW
   have CI:Hid (Calls Tryz.prog 140 #[.pointer (some ⟨b7,0,none⟩)] w8 fun e w'=>e=.returned (.bool true)/\Below w8.heap.size w8 w'):=by
    rcases hg.kind with hk1 |hk2
    ·exact isRight_leaf (W:=fun _=>False) w8 b7 _ P8.nd (hsW _ (fun h=>h)) hg hk1
    ·exact isRight_inner (W:=fun _=>False) w8 b7 _ P8.nd (hsW _ (fun h=>h)) hg hk2.1 (by show((lv:Nat):Int)=_;rw[← hlv])
   have HB8:Hid (Below w4.heap.size w4 w8):=hb8
   have HP8:Hid (NdAt w8 b7 ⟨(id:Int),t,(lv:Int),.slice (some ⟨a6,0,none⟩) (Pg.cnt (Pg.bts t)) (Pg.cnt (Pg.bts t)),lo,hi,0⟩):=P8.nd
   have HAG:Hid (w4.heap.size<=a6):=hag
   clear P8 hb8 hb7 hl7 hl8 hag N7 b5 b6 l6 ga6 hsW zz zz2 zz3
   rcases hl with rfl |rfl
   ·skip
    go_wp2_with (first
     | (go_at_call 140;refine CI.out.mono ?_;rintro e w9 ⟨rfl,b9⟩;have n9:=HP8.out.below b9;have d2:w9.cell? ⟨b7,2,none⟩=some (.int .i64 (lv:Int)):=n9.c2;have m9:NdAt w9 b1 zN:=(HN4.out.below HB8.out).below b9)
     | (refine wpList_load_nd _ rfl (.tmp 12) rfl rfl n9 ?_)
     | (refine wpList_put_nd _ rfl (.tmp 8) (.tmp 67) rfl rfl rfl m9 rfl ?_;intro w10 P10))
    refine bodyPost_ret (results_nd2 rfl _ _ rfl P10.nd) rfl ?_
    have hb49:Below w4.heap.size w4 w9:=thn HB8.out b9
    have B9:=HB4.out.below hb49
    have F9:=HF4.out.below hb49
    have hn1:¬ W4 b1:=fun e=>by rcases HF4.out.sub _ e with e2 |e2;exact absurd (HLT.out _ e2) (by omega);exact HNW.out e
    have hna:¬ (W4 a6∨a6<w.heap.size):=fun e=>by have hq:=HAG.out;rcases e with e |e;have:=HB4.out.lt e;omega;omega
    refine⟨_,W4,rfl,B9.off P10.off hn1,F9.off P10.off hb1g,rfl,rfl,by show((lv:Nat):Int)=_;rw[← hlv];rfl,rfl,rfl,rfl,?_⟩
    exact((HS.out (fun j=>W4 j∨j<w.heap.size) hna).below b9).off_ P10.off (by have:=HAG.out;omega)
   ·skip
    go_wp2_with (first
     | (go_at_call 140;refine CI.out.mono ?_;rintro e w9 ⟨rfl,b9⟩;have n9:=HP8.out.below b9;have d2:w9.cell? ⟨b7,2,none⟩=some (.int .i64 (lv:Int)):=n9.c2;have m9:NdAt w9 b1 zN:=(HN4.out.below HB8.out).below b9)
     | (refine wpList_load_nd _ rfl (.tmp 12) rfl rfl n9 ?_)
     | (refine wpList_put_nd _ rfl (.tmp 8) (.tmp 67) rfl rfl rfl m9 rfl ?_;intro w10 P10))
    refine bodyPost_ret (results_nd2 rfl _ _ rfl P10.nd) rfl ?_
    have hb49:Below w4.heap.size w4 w9:=thn HB8.out b9
    have B9:=HB4.out.below hb49
    have F9:=HF4.out.below hb49
    have hn1:¬ W4 b1:=fun e=>by rcases HF4.out.sub _ e with e2 |e2;exact absurd (HLT.out _ e2) (by omega);exact HNW.out e
    have hna:¬ (W4 a6∨a6<w.heap.size):=fun e=>by have hq:=HAG.out;rcases e with e |e;have:=HB4.out.lt e;omega;omega
    refine⟨_,W4,rfl,B9.off P10.off hn1,F9.off P10.off hb1g,rfl,rfl,by show((lv:Nat):Int)=_;rw[← hlv];rfl,rfl,rfl,rfl,?_⟩
    exact((HS.out (fun j=>W4 j∨j<w.heap.size) hna).below b9).off_ P10.off (by have:=HAG.out;omega)
  refine AllReadyH.cons (o:=_) rfl (fun K hK=>?_) AllReadyH.nil
  rw[if_pos (by rfl)]
  refine wp_new_nd _ rfl ?_
  intro w7 b7 N7
  refine hK.out _ _ ⟨below_cell hHeld.1 N7.below,below_cell hHeld.2 N7.below⟩ (fun hHeld=>?_)
  clear hK K
  try simp only[Act.put,List.setIfInBounds_toArray,List.set_cons_zero,List.set_cons_succ,List.getElem_toArray,List.getElem_cons_succ,List.getElem_cons_zero]
  refine wpAnyH_ready (rs:=[5]) (by kernel_rfl) (by simp) ?_
  refine AllReadyH.cons (o:=_) rfl (fun K hK=>?_) AllReadyH.nil
  go_simp
  refine(CC.out _).mono ?_
  rintro e w6 ⟨a6,rfl,l6,ga6,b6⟩
  go_wp2_with fail
  refine hK.out _ _ ⟨below_cell hHeld.1 b6,below_cell hHeld.2 b6⟩ (fun hHeld=>?_)
  clear hK K
  try simp only[Act.put,List.setIfInBounds_toArray,List.set_cons_zero,List.set_cons_succ,List.getElem_toArray,List.getElem_cons_succ,List.getElem_cons_zero]
  refine wpAnyH_take (i:=7) (oi:=_) (v:=?_) rfl (by kernel_rfl) (by kernel_rfl) (by kernel_rfl) (fun _ _ _ h=>h) (Or.inl ⟨by rfl,?_⟩) hHeld ?_
  rotate_left
  ·(intro w hSw;(try dsimp only at hSw);go_simp;(try with_reducible rfl))
  try simp only[Act.put,List.setIfInBounds_toArray,List.set_cons_zero,List.set_cons_succ,List.getElem_toArray,List.getElem_cons_succ,List.getElem_cons_zero]
  have zz:w4.heap.size<=w5.heap.size:=b5.size
  have zz2:=N7.below.size
  have zz3:=N7.eq
  have zz4:=N7.nd.lt
  have hb7:Below w4.heap.size w4 w6:=thn (thn (thn ((Below.refl _ _).drew) b5) N7.below) b6
  have hl7:=l6
  have hg7:w4.heap.size<=b7:=by omega
  have ha7:a6≠b7:=by omega
  have hag:w4.heap.size<=a6:=by omega
  refine wpAnyH_ready (rs:=[9]) (by kernel_rfl) (by simp) ?_
  refine AllReadyH.cons (o:=_) rfl (fun K hK=>?_) AllReadyH.nil
  rw[if_pos (by rfl)]
  refine wp_put_nd (s':=⟨(id:Int),t,(lv:Int),.slice (some ⟨a6,0,none⟩) (Pg.cnt (Pg.bts t)) (Pg.cnt (Pg.bts t)),lo,hi,0⟩) _ (.tmp 12) (.tmp 53) rfl rfl rfl (N7.nd.below b6) rfl ?_
  intro w8 P8
  refine hK.out _ _ ⟨off_cell hHeld.1 P8.off (by omega),off_cell hHeld.2 P8.off (by omega)⟩ (fun hHeld=>?_)
  clear hK K
  try simp only[Act.put,List.setIfInBounds_toArray,List.set_cons_zero,List.set_cons_succ,List.getElem_toArray,List.getElem_cons_succ,List.getElem_cons_zero]
  refine wpAnyH_done (by kernel_rfl) ?_ _
  clear hHeld
  have hb8:Below w4.heap.size w4 w8:=hb7.trans (P8.off.below hg7 hb7.size)
  have hl8:Pg.Laid w8 a6 (Pg.cnt (Pg.bts t)) (Pg.cnt (Pg.bts t)) (Pg.cells (Pg.bts t)):=by obtain⟨D,q1,q2⟩:=hl7.ex;exact⟨⟨D,(P8.off.block _ (lt_of_some q1) ha7).trans q1,q2⟩⟩
  have hsW:∀ V:Nat->Prop,¬ V a6->SlW V w8 (.slice (some ⟨a6,0,none⟩) (Pg.cnt (Pg.bts t)) (Pg.cnt (Pg.bts t))) (cs t):=fun V hV=>SlW.laid hl8 (Pg.cells_length _) hV
  have HS:Hid (∀ V:Nat->Prop,¬ V a6->SlW V w8 (.slice (some ⟨a6,0,none⟩) (Pg.cnt (Pg.bts t)) (Pg.cnt (Pg.bts t))) (cs t)):=hsW
  have CI:Hid (Calls Tryz.prog 140 #[.pointer (some ⟨b7,0,none⟩)] w8 fun e w'=>e=.returned (.bool true)/\Below w8.heap.size w8 w'):=by
   rcases hg.kind with hk1 |hk2
   ·exact isRight_leaf (W:=fun _=>False) w8 b7 _ P8.nd (hsW _ (fun h=>h)) hg hk1
   ·exact isRight_inner (W:=fun _=>False) w8 b7 _ P8.nd (hsW _ (fun h=>h)) hg hk2.1 (by show((lv:Nat):Int)=_;rw[← hlv])
  have HB8:Hid (Below w4.heap.size w4 w8):=hb8
  have HP8:Hid (NdAt w8 b7 ⟨(id:Int),t,(lv:Int),.slice (some ⟨a6,0,none⟩) (Pg.cnt (Pg.bts t)) (Pg.cnt (Pg.bts t)),lo,hi,0⟩):=P8.nd
  have HAG:Hid (w4.heap.size<=a6):=hag
  clear P8 hb8 hb7 hl7 hl8 hag N7 b5 b6 l6 ga6 hsW zz zz2 zz3 zz4
  rcases hl with rfl |rfl
  ·skip
   go_wp2_with (first
    | (go_at_call 140;refine CI.out.mono ?_;rintro e w9 ⟨rfl,b9⟩;have n9:=HP8.out.below b9;have d2:w9.cell? ⟨b7,2,none⟩=some (.int .i64 (lv:Int)):=n9.c2;have m9:NdAt w9 b1 zN:=(HN4.out.below HB8.out).below b9)
    | (refine wpList_load_nd _ rfl (.tmp 12) rfl rfl n9 ?_)
    | (refine wpList_put_nd _ rfl (.tmp 8) (.tmp 67) rfl rfl rfl m9 rfl ?_;intro w10 P10))
   refine bodyPost_ret (results_nd2 rfl _ _ rfl P10.nd) rfl ?_
   have hb49:Below w4.heap.size w4 w9:=thn HB8.out b9
   have B9:=HB4.out.below hb49
   have F9:=HF4.out.below hb49
   have hn1:¬ W4 b1:=fun e=>by rcases HF4.out.sub _ e with e2 |e2;exact absurd (HLT.out _ e2) (by omega);exact HNW.out e
   have hna:¬ (W4 a6∨a6<w.heap.size):=fun e=>by have hq:=HAG.out;rcases e with e |e;have:=HB4.out.lt e;omega;omega
   refine⟨_,W4,rfl,B9.off P10.off hn1,F9.off P10.off hb1g,rfl,rfl,by show((lv:Nat):Int)=_;rw[← hlv];rfl,rfl,rfl,rfl,?_⟩
   exact((HS.out (fun j=>W4 j∨j<w.heap.size) hna).below b9).off_ P10.off (by have:=HAG.out;omega)
  ·skip
   go_wp2_with (first
    | (go_at_call 140;refine CI.out.mono ?_;rintro e w9 ⟨rfl,b9⟩;have n9:=HP8.out.below b9;have d2:w9.cell? ⟨b7,2,none⟩=some (.int .i64 (lv:Int)):=n9.c2;have m9:NdAt w9 b1 zN:=(HN4.out.below HB8.out).below b9)
    | (refine wpList_load_nd _ rfl (.tmp 12) rfl rfl n9 ?_)
    | (refine wpList_put_nd _ rfl (.tmp 8) (.tmp 67) rfl rfl rfl m9 rfl ?_;intro w10 P10))
   refine bodyPost_ret (results_nd2 rfl _ _ rfl P10.nd) rfl ?_
   have hb49:Below w4.heap.size w4 w9:=thn HB8.out b9
   have B9:=HB4.out.below hb49
   have F9:=HF4.out.below hb49
   have hn1:¬ W4 b1:=fun e=>by rcases HF4.out.sub _ e with e2 |e2;exact absurd (HLT.out _ e2) (by omega);exact HNW.out e
   have hna:¬ (W4 a6∨a6<w.heap.size):=fun e=>by have hq:=HAG.out;rcases e with e |e;have:=HB4.out.lt e;omega;omega
   refine⟨_,W4,rfl,B9.off P10.off hn1,F9.off P10.off hb1g,rfl,rfl,by show((lv:Nat):Int)=_;rw[← hlv];rfl,rfl,rfl,rfl,?_⟩
   exact((HS.out (fun j=>W4 j∨j<w.heap.size) hna).below b9).off_ P10.off (by have:=HAG.out;omega)
 refine AllReadyH.cons (o:=_) rfl (fun K hK=>?_) AllReadyH.nil
 rw[if_pos (by rfl)]
 refine wp_new_nd _ rfl ?_
 intro w7 b7 N7
 refine hK.out _ _ ⟨below_cell hHeld.1 N7.below,below_cell hHeld.2 N7.below⟩ (fun hHeld=>?_)
 clear hK K
 try simp only[Act.put,List.setIfInBounds_toArray,List.set_cons_zero,List.set_cons_succ,List.getElem_toArray,List.getElem_cons_succ,List.getElem_cons_zero]
 refine wpAnyH_ready (rs:=[3]) (by kernel_rfl) (by simp) ?_
 refine AllReadyH.cons (o:=_) rfl (fun K hK=>?_) AllReadyH.nil
 go_simp
 refine(CL.out _).mono ?_
 rintro e w5 ⟨rfl,b5⟩
 go_wp2_with fail
 refine hK.out _ _ ⟨below_cell hHeld.1 b5,below_cell hHeld.2 b5⟩ (fun hHeld=>?_)
 clear hK K
 try simp only[Act.put,List.setIfInBounds_toArray,List.set_cons_zero,List.set_cons_succ,List.getElem_toArray,List.getElem_cons_succ,List.getElem_cons_zero]
 refine wpAnyH_ready (rs:=[5]) (by kernel_rfl) (by simp) ?_
 refine AllReadyH.cons (o:=_) rfl (fun K hK=>?_) AllReadyH.nil
 go_simp
 refine(CC.out _).mono ?_
 rintro e w6 ⟨a6,rfl,l6,ga6,b6⟩
 go_wp2_with fail
 refine hK.out _ _ ⟨below_cell hHeld.1 b6,below_cell hHeld.2 b6⟩ (fun hHeld=>?_)
 clear hK K
 try simp only[Act.put,List.setIfInBounds_toArray,List.set_cons_zero,List.set_cons_succ,List.getElem_toArray,List.getElem_cons_succ,List.getElem_cons_zero]
 refine wpAnyH_take (i:=7) (oi:=_) (v:=?_) rfl (by kernel_rfl) (by kernel_rfl) (by kernel_rfl) (fun _ _ _ h=>h) (Or.inl ⟨by rfl,?_⟩) hHeld ?_
 rotate_left
 ·(intro w hSw;(try dsimp only at hSw);go_simp;(try with_reducible rfl))
 try simp only[Act.put,List.setIfInBounds_toArray,List.set_cons_zero,List.set_cons_succ,List.getElem_toArray,List.getElem_cons_succ,List.getElem_cons_zero]
 have zz:w4.heap.size<=w7.heap.size:=N7.below.size
 have zz2:=b5.size
 have zz3:b7=w4.heap.size:=N7.eq
 have zz4:=N7.nd.lt
 have hb7:Below w4.heap.size w4 w6:=thn (thn (thn ((Below.refl _ _).drew) N7.below) b5) b6
 have hl7:=l6
 have hg7:w4.heap.size<=b7:=by omega
 have ha7:a6≠b7:=by omega
 have hag:w4.heap.size<=a6:=by omega
 refine wpAnyH_ready (rs:=[9]) (by kernel_rfl) (by simp) ?_
 refine AllReadyH.cons (o:=_) rfl (fun K hK=>?_) AllReadyH.nil
 rw[if_pos (by rfl)]
 refine wp_put_nd (s':=⟨(id:Int),t,(lv:Int),.slice (some ⟨a6,0,none⟩) (Pg.cnt (Pg.bts t)) (Pg.cnt (Pg.bts t)),lo,hi,0⟩) _ (.tmp 12) (.tmp 53) rfl rfl rfl ((N7.nd.below b5).below b6) rfl ?_
 intro w8 P8
 refine hK.out _ _ ⟨off_cell hHeld.1 P8.off (by omega),off_cell hHeld.2 P8.off (by omega)⟩ (fun hHeld=>?_)
 clear hK K
 try simp only[Act.put,List.setIfInBounds_toArray,List.set_cons_zero,List.set_cons_succ,List.getElem_toArray,List.getElem_cons_succ,List.getElem_cons_zero]
 refine wpAnyH_done (by kernel_rfl) ?_ _
 clear hHeld
 have hb8:Below w4.heap.size w4 w8:=hb7.trans (P8.off.below hg7 hb7.size)
 have hl8:Pg.Laid w8 a6 (Pg.cnt (Pg.bts t)) (Pg.cnt (Pg.bts t)) (Pg.cells (Pg.bts t)):=by obtain⟨D,q1,q2⟩:=hl7.ex;exact⟨⟨D,(P8.off.block _ (lt_of_some q1) ha7).trans q1,q2⟩⟩
 have hsW:∀ V:Nat->Prop,¬ V a6->SlW V w8 (.slice (some ⟨a6,0,none⟩) (Pg.cnt (Pg.bts t)) (Pg.cnt (Pg.bts t))) (cs t):=fun V hV=>SlW.laid hl8 (Pg.cells_length _) hV
 have HS:Hid (∀ V:Nat->Prop,¬ V a6->SlW V w8 (.slice (some ⟨a6,0,none⟩) (Pg.cnt (Pg.bts t)) (Pg.cnt (Pg.bts t))) (cs t)):=hsW
 have CI:Hid (Calls Tryz.prog 140 #[.pointer (some ⟨b7,0,none⟩)] w8 fun e w'=>e=.returned (.bool true)/\Below w8.heap.size w8 w'):=by
  rcases hg.kind with hk1 |hk2
  ·exact isRight_leaf (W:=fun _=>False) w8 b7 _ P8.nd (hsW _ (fun h=>h)) hg hk1
  ·exact isRight_inner (W:=fun _=>False) w8 b7 _ P8.nd (hsW _ (fun h=>h)) hg hk2.1 (by show((lv:Nat):Int)=_;rw[← hlv])
 have HB8:Hid (Below w4.heap.size w4 w8):=hb8
 have HP8:Hid (NdAt w8 b7 ⟨(id:Int),t,(lv:Int),.slice (some ⟨a6,0,none⟩) (Pg.cnt (Pg.bts t)) (Pg.cnt (Pg.bts t)),lo,hi,0⟩):=P8.nd
 have HAG:Hid (w4.heap.size<=a6):=hag
 clear P8 hb8 hb7 hl7 hl8 hag N7 b5 b6 l6 ga6 hsW zz zz2 zz3 zz4
 rcases hl with rfl |rfl
 ·skip
  go_wp2_with (first
   | (go_at_call 140;refine CI.out.mono ?_;rintro e w9 ⟨rfl,b9⟩;have n9:=HP8.out.below b9;have d2:w9.cell? ⟨b7,2,none⟩=some (.int .i64 (lv:Int)):=n9.c2;have m9:NdAt w9 b1 zN:=(HN4.out.below HB8.out).below b9)
   | (refine wpList_load_nd _ rfl (.tmp 12) rfl rfl n9 ?_)
   | (refine wpList_put_nd _ rfl (.tmp 8) (.tmp 67) rfl rfl rfl m9 rfl ?_;intro w10 P10))
  refine bodyPost_ret (results_nd2 rfl _ _ rfl P10.nd) rfl ?_
  have hb49:Below w4.heap.size w4 w9:=thn HB8.out b9
  have B9:=HB4.out.below hb49
  have F9:=HF4.out.below hb49
  have hn1:¬ W4 b1:=fun e=>by rcases HF4.out.sub _ e with e2 |e2;exact absurd (HLT.out _ e2) (by omega);exact HNW.out e
  have hna:¬ (W4 a6∨a6<w.heap.size):=fun e=>by have hq:=HAG.out;rcases e with e |e;have:=HB4.out.lt e;omega;omega
  refine⟨_,W4,rfl,B9.off P10.off hn1,F9.off P10.off hb1g,rfl,rfl,by show((lv:Nat):Int)=_;rw[← hlv];rfl,rfl,rfl,rfl,?_⟩
  exact((HS.out (fun j=>W4 j∨j<w.heap.size) hna).below b9).off_ P10.off (by have:=HAG.out;omega)
 ·skip
  go_wp2_with (first
   | (go_at_call 140;refine CI.out.mono ?_;rintro e w9 ⟨rfl,b9⟩;have n9:=HP8.out.below b9;have d2:w9.cell? ⟨b7,2,none⟩=some (.int .i64 (lv:Int)):=n9.c2;have m9:NdAt w9 b1 zN:=(HN4.out.below HB8.out).below b9)
   | (refine wpList_load_nd _ rfl (.tmp 12) rfl rfl n9 ?_)
   | (refine wpList_put_nd _ rfl (.tmp 8) (.tmp 67) rfl rfl rfl m9 rfl ?_;intro w10 P10))
  refine bodyPost_ret (results_nd2 rfl _ _ rfl P10.nd) rfl ?_
  have hb49:Below w4.heap.size w4 w9:=thn HB8.out b9
  have B9:=HB4.out.below hb49
  have F9:=HF4.out.below hb49
  have hn1:¬ W4 b1:=fun e=>by rcases HF4.out.sub _ e with e2 |e2;exact absurd (HLT.out _ e2) (by omega);exact HNW.out e
  have hna:¬ (W4 a6∨a6<w.heap.size):=fun e=>by have hq:=HAG.out;rcases e with e |e;have:=HB4.out.lt e;omega;omega
  refine⟨_,W4,rfl,B9.off P10.off hn1,F9.off P10.off hb1g,rfl,rfl,by show((lv:Nat):Int)=_;rw[← hlv];rfl,rfl,rfl,rfl,?_⟩
  exact((HS.out (fun j=>W4 j∨j<w.heap.size) hna).below b9).off_ P10.off (by have:=HAG.out;omega)
end
end Go.Proofs.YtpcnjncgilmehabGreat.Tr
