import Derived.Test.YtjlhohljkedbbaaGreatMao
import Derived.Shelf.Abstract
import Derived.Deep.Slices
import Derived.OpenShut
import Derived.BigRegion
import Derived.Deep.RegionHeld3
set_option linter.unusedVariables false
set_option linter.unusedSimpArgs false
set_option maxRecDepth 100000
namespace Go.Proofs.YtjlhohljkedbbaaGreat.Lg
open Go.RowKit Go.Maps Go.ChangeMaps
open Gm (thn bl1 bdr)
section
variable {B n:Nat}{w w':World}{v:Value}{xs:List Value}{ps:List Int}
theorem ownF_at2 (h:w.ownsRowF B 5 1 v n xs) (hb:∀ g,v.ownBlock=some g->w'.heap[g]?=w.heap[g]?):w'.ownsRowF B 5 1 v n xs:=by
 refine⟨h.1,?_⟩
 rcases h.2 with hn |⟨g,cap,cur,fz,hv,hbg,hg,rest⟩
 ·exact .inl hn
 ·exact .inr ⟨g,cap,cur,fz,hv,hbg,(hb g (by rw[hv];rfl)).trans hg,rest⟩
theorem ownF_lt (h:w.ownsRowF B 5 1 v n xs) {g:Nat} (e:v.ownBlock=some g):B<=g/\g<w.heap.size:=by
 rcases h.2 with⟨h2,_⟩ |⟨g',cap,cur,fz,e',hB,hg,_⟩
 ·rw[h2] at e;cases e
 ·rw[e'] at e
  have:g'=g:=by simpa[Value.ownBlock] using e
  subst this
  exact⟨hB,lt_of_some hg⟩
theorem ownI_at (h:OwnI B w v ps) (hb:∀ g,v.ownBlock=some g->w'.heap[g]?=w.heap[g]?):OwnI B w' v ps:=by
 obtain⟨h1,h2⟩:=h.row
 refine⟨h1,?_⟩
 rcases h2 with h2 |⟨g,cap,cur,e,hB,hg,h3⟩
 ·exact Or.inl h2
 ·exact Or.inr ⟨g,cap,cur,e,hB,(hb g (by rw[e];rfl)).trans hg,h3⟩
theorem ownI_lt (h:OwnI B w v ps) {g:Nat} (e:v.ownBlock=some g):B<=g/\g<w.heap.size:=by
 obtain⟨h1,h2⟩:=h.row
 rcases h2 with⟨h2,_⟩ |⟨g',cap,cur,e',hB,hg,h3⟩
 ·rw[h2] at e;cases e
 ·rw[e'] at e
  have:g'=g:=by simpa[Value.ownBlock] using e
  subst this
  exact⟨hB,lt_of_some hg⟩
end
structure Lq where
 B:Nat
 k:Nat
 S:Dk
 db:Nat
 bs:Nat
 sc:Nat
 run:Nat
 sure:Nat
structure Lw (w:World) (l:Nat) (fs:List ByteArray) (q:Lq) (W:Nat->Prop):Prop where
 lt:∀ j,W j->j<w.heap.size
 ge:∀ j,W j->q.B<=j
 go:∀ (I:Inhabited PrSet) (w':World),(∀ j,W j->w'.heap[j]?=w.heap[j]?)->w.heap.size<=w'.heap.size->(∀ j,W j->@np I j)->@Ltp I w'->@Lv I q.B w' l q.k q.S q.db q.bs q.sc q.run fs q.sure
section
variable {w w':World}{l:Nat}{fs:List ByteArray}{q:Lq}{W:Nat->Prop}
theorem Lw.turn (h:Lw w l fs q W) (hO:∀ j,W j->w'.heap[j]?=w.heap[j]?) (hs:w.heap.size<=w'.heap.size):Lw w' l fs q W :=
 ⟨fun j hj=>Nat.lt_of_lt_of_le (h.lt j hj) hs,h.ge,fun I w2 h1 h2 h3 h4=>h.go I w2 (fun j hj=>(h1 j hj).trans (hO j hj)) (Nat.le_trans hs h2) h3 h4⟩
end
structure Wk (w:World) (l:Nat) (W:Nat->Prop):Prop where
 a:∀ j,W j->∃ o,w.heap[j]?=some o/\isA o
 i:∀ j,W j->∀ A fz,w.heap[j]?=some (.cells A 3 fz)->∀ pv,w.cell? ⟨l,7,none⟩=some pv->pv.ownBlock=some j
theorem lv_sup {I:Inhabited PrSet} {w:World} {l:Nat} {fs:List ByteArray} {q:Lq} (h:@Lv I q.B w l q.k q.S q.db q.bs q.sc q.run fs q.sure):∃ W:Nat->Prop,(∀ j,W j->@np I j)/\Wk w l W/\Lw w l fs q W:=by
 have hd:=h.lx.d
 have hg:=h.lx.g
 obtain⟨lb,mb,m,d1,d2,d3,d4⟩:=hd.dsk
 obtain⟨p,v,pv,h1,h2,h3,h4,n3,n4⟩:=hg.ex
 have g3:=d3.ge
 have g4:=d4.ge
 have dq:=hd.q
 have dg:=hd.hd.ge
 have dl:=hd.lt
 have gg:=hg.ge.ge
 have gl:=hg.le
 have vu:=h.up
 have vf:=h.fit
 have vs:=h.hs
 have vn:=h.n
 have vr:=h.r2
 have vq:=h.q
 have vb:∀ j,v.ownBlock=some j->∃ A fz,w.heap[j]?=some (.cells A 5 fz):=fun j e2=>by
  rcases h3.2 with⟨e3,_⟩ |⟨g',cap,cur,fz,e',hB,hg',_⟩
  ·rw[e3] at e2;cases e2
  ·rw[e'] at e2
   have:g'=j:=by simpa[Value.ownBlock] using e2
   subst this
   exact⟨_,_,hg'⟩
 have pb:∀ j,pv.ownBlock=some j->∃ A fz,w.heap[j]?=some (.cells A 3 fz):=fun j e2=>by
  obtain⟨_,h5⟩:=h4.row
  rcases h5 with⟨e3,_⟩ |⟨g',cap,cur,e',hB,hg',_⟩
  ·rw[e3] at e2;cases e2
  ·rw[e'] at e2
   have:g'=j:=by simpa[Value.ownBlock] using e2
   subst this
   exact⟨_,_,hg'⟩
 refine⟨fun j=>j=q.db∨j=lb∨j=mb∨j=l∨v.ownBlock=some j∨pv.ownBlock=some j,?_,⟨?_,?_⟩,?_,?_,?_⟩
 rotate_left
 ·rintro j (rfl |rfl |rfl |rfl |e2 |e2)
  ·exact⟨_,d1.blk,Or.inl (Or.inl rfl)⟩
  ·obtain⟨c2,f2,e2⟩:=d1.row.ty;exact⟨_,e2,Or.inl (Or.inr rfl)⟩
  ·obtain⟨c2,f2,e2⟩:=d1.map.is;exact⟨_,e2,Or.inl trivial⟩
  ·exact⟨_,h1,Or.inr (Or.inr (Or.inr rfl))⟩
  ·obtain⟨A,fz,e3⟩:=vb j e2;exact⟨_,e3,Or.inr (Or.inr (Or.inl rfl))⟩
  ·obtain⟨A,fz,e3⟩:=pb j e2;exact⟨_,e3,Or.inr (Or.inl rfl)⟩
 ·rintro j (rfl |rfl |rfl |rfl |e2 |e2) A fz hA pv' hpv
  ·have e2:w.heap[q.db]?=some (.cells _ 74 (0,0)):=d1.blk
   rw[e2] at hA;simp at hA
  ·obtain⟨c2,f2,e2⟩:=d1.row.ty;rw[e2] at hA;simp at hA
  ·obtain⟨c2,f2,e2⟩:=d1.map.is;rw[e2] at hA;simp at hA
  ·rw[h1] at hA;simp at hA
  ·obtain⟨A',fz',e3⟩:=vb j e2;rw[e3] at hA;simp at hA
  ·have e7:w.cell? ⟨l,7,none⟩=some pv:=Joins.cell_of_block h1 7
   rw[e7] at hpv
   cases hpv
   exact e2
 rotate_right
 ·rintro j (rfl |rfl |rfl |rfl |e2 |e2)
  ·exact hd.hd.np
  ·exact d3.np
  ·exact d4.np
  ·exact hg.ge.np
  ·exact n3 j e2
  ·exact n4 j e2
 ·rintro j (rfl |rfl |rfl |rfl |e2 |e2)
  ·exact lt_of_some d1.blk
  ·obtain⟨c2,f2,e2⟩:=d1.row.ty;exact lt_of_some e2
  ·obtain⟨c2,f2,e2⟩:=d1.map.is;exact lt_of_some e2
  ·exact lt_of_some h1
  ·exact(ownF_lt h3 e2).2
  ·exact(ownI_lt h4 e2).2
 ·rintro j (rfl |rfl |rfl |rfl |e2 |e2)
  ·exact dg
  ·exact g3
  ·exact g4
  ·exact gg
  ·exact(ownF_lt h3 e2).1
  ·exact(ownI_lt h4 e2).1
 ·clear h hd hg d3 d4 n3 n4
  intro I' w' hO hs hW hL
  have D:DkIs w' q.db lb mb m q.S:=⟨(hO _ (Or.inl rfl)).trans d1.blk,d1.row.of_block (hO _ (Or.inr (Or.inl rfl))) hs,d1.map.of_block (hO _ (Or.inr (Or.inr (Or.inl rfl)))),d1.ne⟩
  have Dn:@Ds I' q.B w' q.db q.k q.S:=@Ds.mk I' _ _ _ _ _ ⟨lb,mb,m,D,d2,@Ow.mk I' _ _ g3 (hW _ (Or.inr (Or.inl rfl))),@Ow.mk I' _ _ g4 (hW _ (Or.inr (Or.inr (Or.inl rfl))))⟩ dq (@Ow.mk I' _ _ dg (hW _ (Or.inl rfl))) (Nat.le_trans dl hs) hL
  have Ln:@LrIs I' q.B w' l (lgR q.db q.bs q.sc q.run fs (off fs q.sure) false):=@LrIs.mk I' _ _ _ _ ⟨p,v,pv,(hO _ (Or.inr (Or.inr (Or.inr (Or.inl rfl))))).trans h1,h2,ownF_at2 h3 (fun g eg=>hO _ (Or.inr (Or.inr (Or.inr (Or.inr (Or.inl eg)))))),ownI_at h4 (fun g eg=>hO _ (Or.inr (Or.inr (Or.inr (Or.inr (Or.inr eg)))))),fun g eg=>hW _ (Or.inr (Or.inr (Or.inr (Or.inr (Or.inl eg))))),fun g eg=>hW _ (Or.inr (Or.inr (Or.inr (Or.inr (Or.inr eg)))))⟩ (@Ow.mk I' _ _ gg (hW _ (Or.inr (Or.inr (Or.inr (Or.inl rfl)))))) (Nat.le_trans gl hs) hL
  have Lxn:@Lx I' q.B w' l q.k q.S (lgR q.db q.bs q.sc q.run fs (off fs q.sure) false):=@Lx.mk I' _ _ _ _ _ _ Dn Ln
  exact @Lv.mk I' _ _ _ _ _ _ _ _ _ _ _ Lxn vu vf vs vn vr vq
theorem Lw.op {fn l:Nat} {w:World} {fs:List ByteArray} {q:Lq} {W:Nat->Prop} {args:Array Value} {A:Obj->Prop} {R:Ending->List ByteArray->World->Prop} (h:Lw w l fs q W)
  (hop:∀ (I:Inhabited PrSet),@Lv I q.B w l q.k q.S q.db q.bs q.sc q.run fs q.sure->Calls Tryz.prog fn args w fun e w'=>∃ (fs':List ByteArray) (q':Lq),R e fs' w'/\@Lv I q'.B w' l q'.k q'.S q'.db q'.bs q'.sc q'.run fs' q'.sure/\@Kp I A q.B w w'/\q'.sc=q.sc/\q'.B=q.B) :
  Calls Tryz.prog fn args w fun e w'=>∃ (fs':List ByteArray) (q':Lq) (W':Nat->Prop),R e fs' w'/\Lw w' l fs' q' W'/\Gm.Fr W W' w w'/\q'.sc=q.sc/\q'.B=q.B/\Wk w' l W':=by
 obtain⟨p,hp⟩:∃ p:Nat->Option Obj,(∀ j,(¬ W j/\j<w.heap.size)->p j=w.heap[j]?)/\(∀ j,¬ (¬ W j/\j<w.heap.size)->p j=none):=by
  refine⟨fun j=>@ite _ (¬ W j/\j<w.heap.size) (Classical.propDecidable _) (w.heap[j]?) none,fun j hj=>?_,fun j hj=>?_⟩
  ·exact if_pos hj
  ·exact if_neg hj
 have hnp:∀ j,@np ⟨⟨p⟩⟩ j->W j∨w.heap.size<=j:=fun j hj=>by
  rcases Classical.em (W j) with hw |hw
  ·exact Or.inl hw
  ·rcases Nat.lt_or_ge j w.heap.size with hl |hl
   ·exfalso
    refine hj (show p j≠none from ?_)
    rw[hp.1 j ⟨hw,hl⟩]
    simp[hl]
   ·exact Or.inr hl
 have hP:=h.go ⟨⟨p⟩⟩ w (fun _ _=>rfl) (Nat.le_refl _) (fun j hj e=>e (hp.2 j (fun x=>x.1 hj))) (fun j o e=>by
  rcases Classical.em (¬ W j/\j<w.heap.size) with ho |ho
  ·exact(hp.1 j ho).symm.trans e
  ·have:=(hp.2 j ho).symm.trans e;cases this)
 letI:Inhabited PrSet:=⟨⟨p⟩⟩
 refine(hop ⟨⟨p⟩⟩ hP).mono ?_
 rintro e w' ⟨fs',q',hR,hV,hK,hsc,hB⟩
 obtain⟨W2,n2,K2,U2⟩:=lv_sup hV
 refine⟨fs',q',W2,hR,U2,⟨hK.bel.os,hK.bel.tape,hK.bel.output,hK.bel.size,fun j hj hn=>?_,fun j hj=>hnp j (n2 j hj)⟩,hsc,hB,K2⟩
 have e1:w.heap[j]?=some w.heap[j]:=by simp[hj]
 rw[e1]
 exact hK.prot j _ e1 (fun e2=>by
  have e3:p j=none:=e2
  rw[hp.1 j ⟨hn,hj⟩,e1] at e3;cases e3)
structure Lo (W:Nat->Prop) (w:World) (l:Nat) (fs:List ByteArray):Prop where
 ex:∃ q,Lw w l fs q W/\q.sc=200
section
variable {w w':World}{l:Nat}{fs:List ByteArray}{W V:Nat->Prop}
theorem Lo.lt (h:Lo W w l fs) {j:Nat} (hj:W j):j<w.heap.size:=by obtain⟨q,h1,_⟩:=h.ex;exact h1.lt j hj
theorem Lo.turn (h:Lo W w l fs) (hO:∀ j,W j->w'.heap[j]?=w.heap[j]?) (hs:w.heap.size<=w'.heap.size):Lo W w' l fs:=by obtain⟨q,h1,h2⟩:=h.ex;exact⟨q,h1.turn hO hs,h2⟩
theorem Lo.below (h:Lo W w l fs) (hb:Below w.heap.size w w'):Lo W w' l fs:=h.turn (fun j hj=>hb.block j (h.lt hj)) hb.size
theorem Lo.fr (h:Lo W w l fs) {V':Nat->Prop} (hf:Gm.Fr V V' w w') (hn:∀ j,W j->¬ V j):Lo W w' l fs:=h.turn (fun j hj=>hf.blk j (h.lt hj) (hn j hj)) hf.size
theorem Lo.any_ (h:Lo W w l fs):∃ (I:Inhabited PrSet) (q:Lq),@Lv I q.B w l q.k q.S q.db q.bs q.sc q.run fs q.sure/\q.sc=200:=by
 obtain⟨q,h1,h2⟩:=h.ex
 exact⟨⟨⟨fun _=>none⟩⟩,q,h1.go ⟨⟨fun _=>none⟩⟩ w (fun _ _=>rfl) (Nat.le_refl _) (fun j _ e=>e rfl) (fun j o e=>by cases e),h2⟩
theorem Lo.fit (h:Lo W w l fs):Fit 200 fs:=by obtain⟨I,q,hv,e⟩:=h.any_;have:=hv.fit;rw[e] at this;exact this
theorem Lo.end_ (h:Lo W w l fs):Calls Tryz.prog 32 #[.pointer (some ⟨l,0,none⟩)] w fun e w'=>e=.returned (.int .i64 (((cat fs).size:Int)+1))/\w'=w:=by
 have hf:=h.fit.sz
 obtain⟨I,q,hv,e⟩:=h.any_
 exact End_any hv.lx.g (by show(cat fs).size<=1000000;omega)
theorem Lo.bound (h:Lo W w l fs) (x:Int):Calls Tryz.prog 68 #[.pointer (some ⟨l,0,none⟩),.int .i64 x] w fun e w'=>e=.returned (.bool (bnd fs x))/\Below w.heap.size w w':=by
 obtain⟨I,q,hv,e⟩:=h.any_
 exact Bound_any hv.lx hv.fit x
structure RdO (W:Nat->Prop) (w:World) (l:Nat) (fs:List ByteArray) (x n:Int) (m:Rm) (e:Ending) (w':World):Prop where
 ex:∃ v W',e=.returned (.tuple #[v,.int .i64 (x+n),.int .i64 0])/\RecF w' v m w.heap.size/\Lo W' w' l fs/\Gm.Fr W W' w w'
theorem Lo.read (h:Lo W w l fs) (x:Int) (hx1:1<=x) (hx2:x<((cat fs).size:Int)+1) {m:Rm} {n:Int} (ho:openM (cat fs) (x-1)=(m,n,0)) (hn0:0<=n) (hn1:n<=1000000):Calls Tryz.prog 34 #[.pointer (some ⟨l,0,none⟩),.int .i64 x] w fun e w'=>RdO W w l fs x n m e w':=by
 obtain⟨q,h1,h2⟩:=h.ex
 refine(Lw.op (A:=isL) (R:=fun e fs' w'=>fs'=fs/\∃ v,e=.returned (.tuple #[v,.int .i64 (x+n),.int .i64 0])/\RecF w' v m w.heap.size) h1 (fun I hv=>?_)).mono ?_
 ·refine(read_ok hv.lx hv.fit x hx1 hx2 ho hn0 hn1).mono ?_
  rintro e w' ⟨⟨v,he,hr⟩,hx,hk,_⟩
  exact⟨fs,q,⟨rfl,v,he,hr⟩,⟨hx,hv.up,hv.fit,hv.hs,hv.n,hv.r2,hv.q⟩,hk,rfl,rfl⟩
 ·rintro e w' ⟨fs',q',W',⟨rfl,v,he,hr⟩,hw,hf,e1,e2,_⟩
  exact⟨v,W',he,hr,⟨q',hw,e1.trans h2⟩,hf⟩
structure ApO (W:Nat->Prop) (w:World) (l:Nat) (fs:List ByteArray) (m:Rm) (e:Ending) (w':World):Prop where
 ex:∃ x y fs' W',e=.returned (.tuple #[.int .i64 x,.int .i64 y])/\Lo W' w' l fs'/\Gm.Fr W W' w w'/\((y=0/\(frameM m).2=0/\fs'=fs++[(frameM m).1]/\x=((cat fs).size:Int)+1/\(cat fs).size+(frameM m).1.size<=11600)∨(y≠0/\fs'=fs/\x=0/\(((frameM m).2≠0/\y=(frameM m).2)∨((frameM m).2=0/\y=7/\¬ (cat fs).size+(frameM m).1.size<=11600))))
theorem Lo.append (h:Lo W w l fs) {v:Value} {m:Rm} (hv:RecV w v m) (hm:Small m):Calls Tryz.prog 23 #[.pointer (some ⟨l,0,none⟩),v] w fun e w'=>ApO W w l fs m e w':=by
 obtain⟨q,h1,h2⟩:=h.ex
 refine(Lw.op (A:=isL) (R:=fun e fs' w'=>∃ x y,e=.returned (.tuple #[.int .i64 x,.int .i64 y])/\((y=0/\(frameM m).2=0/\fs'=fs++[(frameM m).1]/\x=((cat fs).size:Int)+1/\(cat fs).size+(frameM m).1.size<=58*q.sc)∨(y≠0/\fs'=fs/\x=0/\(((frameM m).2≠0/\y=(frameM m).2)∨((frameM m).2=0/\y=7/\¬ (cat fs).size+(frameM m).1.size<=58*q.sc))))) h1 (fun I hl=>?_)).mono ?_
 ·refine(hl.appendAny hv hm).mono ?_
  rintro e w' ⟨x,y,fs',he,hl',hk,hor⟩
  exact⟨fs',q,⟨x,y,he,hor⟩,hl',hk,rfl,rfl⟩
 ·rintro e w' ⟨fs',q',W',⟨x,y,he,hor⟩,hw,hf,e1,e2,_⟩
  refine⟨x,y,fs',W',he,⟨q',hw,e1.trans h2⟩,hf,?_⟩
  rw[h2] at hor
  exact hor
structure RcO (W:Nat->Prop) (w:World) (l:Nat) (fs:List ByteArray) (e:Ending) (w':World):Prop where
 ex:∃ v v2 W',e=.returned (.tuple #[v,v2])/\Rcs w.heap.size w' v (fs.map recF)/\OwnI w.heap.size w' v2 (plc 1 fs)/\Lo W' w' l fs/\Gm.Fr W W' w w'/\(∀ g,v.ownBlock=some g->¬ W' g)/\(∀ g,v2.ownBlock=some g->¬ W' g)
theorem Lo.records (h:Lo W w l fs):Calls Tryz.prog 17 #[.pointer (some ⟨l,0,none⟩)] w fun e w'=>RcO W w l fs e w':=by
 obtain⟨q,h1,h2⟩:=h.ex
 refine(Lw.op (A:=isL) (R:=fun e fs' w'=>fs'=fs/\∃ v v2,e=.returned (.tuple #[v,v2])/\Rcs w.heap.size w' v (fs.map recF)/\OwnI w.heap.size w' v2 (plc 1 fs)/\Own7 w' l v2) h1 (fun I hv=>?_)).mono ?_
 ·refine(Records_own hv.lx hv.fit).mono ?_
  rintro e w' ⟨⟨v,v2,he,hr,hi,h7⟩,hx,hk⟩
  exact⟨fs,q,⟨rfl,v,v2,he,hr,hi,h7⟩,⟨hx,hv.up,hv.fit,hv.hs,hv.n,hv.r2,hv.q⟩,hk,rfl,rfl⟩
 ·rintro e w' ⟨fs',q',W',⟨rfl,v,v2,he,hr,hi,h7⟩,hw,hf,e1,e2,hk⟩
  refine⟨v,v2,W',he,hr,hi,⟨q',hw,e1.trans h2⟩,hf,fun g eg hg=>?_,fun g eg hg=>?_⟩
  ·obtain⟨o,ho,ha⟩:=hk.a g hg
   obtain⟨es,_,hrow,_⟩:=hr.ex
   rcases hrow.2 with⟨e3,_⟩ |⟨b,cap,cur,e3,_,hgg,_⟩
   ·rw[e3] at eg;cases eg
   ·rw[e3] at eg
    have:b=g:=by simpa[Value.ownBlock] using eg
    subst this
    rw[hgg] at ho
    cases ho
    simp[isA,isD,isL] at ha
  ·obtain⟨_,h5⟩:=hi.row
   rcases h5 with⟨e3,_⟩ |⟨g',cap,cur,e',hB,hg',_⟩
   ·rw[e3] at eg;cases eg
   ·rw[e'] at eg
    have:g'=g:=by simpa[Value.ownBlock] using eg
    subst this
    obtain⟨pv,k1,k2⟩:=h7.ex
    exact k2 g' (by rw[e'];rfl) (hk.i g' hg _ _ hg' pv k1)
end
def pla (fs:List ByteArray) (i:Nat):Int:=((1+off fs i:Nat):Int)
section
variable {W W':Nat->Prop}{w w' w2:World}{l:Nat}{fs:List ByteArray}{b:Nat}{s:Sc}{I T:Value}
theorem pla_end (fs:List ByteArray):pla fs fs.length=((cat fs).size:Int)+1:=by
 unfold pla
 rw[off_all]
 omega
theorem fr_put (hF:Gm.Fr W W' w w') (P:PutR w' w2 b s I T) (hb:w.heap.size<=b):Gm.Fr W W' w w2:=by
 have hw:w.heap.size<=w'.heap.size:=hF.size
 have hbl:=P.below hb hw
 exact⟨hbl.os.trans hF.os,hbl.tape.trans hF.tape,hbl.output.trans hF.output,Nat.le_trans hF.size P.off.size,fun j hj hn=>(P.off.block j (Nat.lt_of_lt_of_le hj hF.size) (by omega)).trans (hF.blk j hj hn),hF.sub⟩
structure ReO (W:Nat->Prop) (w:World) (l:Nat) (fs:List ByteArray) (i:Nat) (m:Rm) (e:Ending) (w':World):Prop where
 ex:∃ v W',e=.returned (.tuple #[v,.int .i64 (pla fs (i+1)),.int .i64 0])/\RecF w' v m w.heap.size/\Lo W' w' l fs/\Gm.Fr W W' w w'
set_option maxHeartbeats 2000000 in
theorem read_at (h:Lo W w l fs) {i:Nat} (hi:i<fs.length):Calls Tryz.prog 43 #[.pointer (some ⟨l,0,none⟩),.int .i64 (pla fs i)] w fun e w'=>ReO W w l fs i (recF fs[i]) e w':=by
 have hf:=h.fit
 have hoff:=off_lt hf.frm hi (Nat.le_refl _)
 rw[off_all] at hoff
 have hz:=(hf.frm fs[i] (List.getElem_mem _)).le
 have hsz:=hf.sz
 have hnx:pla fs i+(fs[i].size:Int)=pla fs (i+1):=by
  unfold pla
  rw[off_succ hi]
  omega
 have hbn:bnd fs (pla fs i)=true:=bnd_iff.2 ⟨i,Nat.le_of_lt hi,rfl⟩
 have HL:Hid (∀ wx,Below w.heap.size w wx->Lo W wx l fs):=fun wx hb=>h.below hb
 have HLt:Hid (∀ j,W j->j<w.heap.size):=fun j hj=>h.lt hj
 have CR:Hid (∀ wx,Lo W wx l fs->Calls Tryz.prog 34 #[.pointer (some ⟨l,0,none⟩),.int .i64 (pla fs i)] wx fun e w'=>∃ v W',e=.returned (.tuple #[v,.int .i64 (pla fs (i+1)),.int .i64 0])/\RecF w' v (recF fs[i]) wx.heap.size/\Lo W' w' l fs/\Gm.Fr W W' wx w'):=fun wx hx=>by
  refine(hx.read (pla fs i) (by unfold pla;omega) (by unfold pla;omega) (m:=recF fs[i]) (n:=(fs[i].size:Int)) (by rw[show pla fs i-1=(off fs i:Int) by unfold pla;omega];exact open_at hf.frm hi) (by omega) (by omega)).mono ?_
  rintro e w' ⟨v,W',he,h1⟩
  rw[hnx] at he
  exact⟨v,W',he,h1⟩
 have CB:Hid (∀ W' wx,Lo W' wx l fs->Calls Tryz.prog 68 #[.pointer (some ⟨l,0,none⟩),.int .i64 (pla fs i)] wx fun e w'=>e=.returned (.bool true)/\Below wx.heap.size wx w'):=fun W' wx hx=>by
  have:=hx.bound (pla fs i)
  rw[hbn] at this
  exact this
 clear h hf hoff hz hsz hnx hbn
 generalize recF fs[i]=m at *
 generalize hnx2:pla fs (i+1)=nx at *
 have HNX:Hid (pla fs (i+1)=nx):=hnx2
 obtain⟨s9,l9,g9⟩:=m
 generalize hpx:pla fs i=x at *
 clear hnx2 hpx
 go_enter Tryz.func43,Tryz.ntmps43
 go_wp2_with first
  | (have:=N1;refine wpList_new_rc _ rfl rfl ?_;intro w4 b7 N7)
  | (refine wpList_new_rc _ rfl rfl ?_;intro w1 b4 N1)
  | (go_at_call 34;refine(CR.out _ (HL.out _ N1.below)).mono ?_;rintro e w2 ⟨v,W2,rfl,hv,hl2,hf2⟩;have L2:Hid (Lo W2 w2 l fs):=hl2;have F2:Hid (Gm.Fr W W2 w w2):=(Gm.Fr.of_below N1.below W).trans hf2;have rc2:RcAt w2 b4 zS nilV nilV:=⟨(hf2.blk _ N1.rc.lt (fun e=>by have:=HLt.out _ e;have:=N1.eq;omega)).trans N1.rc.blk⟩;have Z2:Hid (w1.heap.size<=w2.heap.size):=hf2.size;have HS2:Hid (∀ j,W2 j->j≠b4):=(fun j hj e=>(hf2.sub j hj).elim (fun h=>by have:=HLt.out _ h;have:=N1.eq;omega) (fun h=>by have:=N1.rc.lt;omega));have HV:Hid (RecF w2 v ⟨s9,l9,g9⟩ w1.heap.size):=hv;clear hl2 hf2;obtain⟨I,T,rfl,hI,hT⟩:=hv.ex;dsimp only at hI hT)
  | (refine wpList_at (Op.store 54 (.tmp 7) (.tmp 14)) rfl ?_;refine wpList_put_rc (s':=s9) (I':=I) (T':=T) _ rfl (.tmp 7) (.tmp 14) rfl rfl rfl N7.rc hI.slI.one hT.slT.one ?_;intro w5 P7;have b25:Below w2.heap.size w2 w5:=N7.below.trans (P7.below (by have:=N7.eq;omega) N7.below.size);have rc5:=rc2.below b25;have L5:Hid (Lo W2 w5 l fs):=L2.out.below b25)
  | (go_at_call 68;refine(CB.out _ _ L5.out).mono ?_;rintro e w6 ⟨rfl,b56⟩;have b26:Below w2.heap.size w2 w6:=thn b25 b56;have rc6:=rc5.below b56;have rc7:=P7.rc.below b56)
  | (refine wpList_load_rc _ rfl (.tmp 7) rfl rfl rc7 ?_)
  | (refine wpList_at (Op.store 54 (.tmp 4) (.tmp 26)) rfl ?_;refine wpList_put_rc (s':=s9) (I':=I) (T':=T) _ rfl (.tmp 4) (.tmp 26) rfl rfl rfl rc6 hI.slI.one hT.slT.one ?_;intro w8 P4)
 refine bodyPost_ret (results_rc3 rfl _ _ rfl P4.rc) rfl ?_
 have e4:=N1.eq
 have s1:=N1.below.size
 have z2:=Z2.out
 have l1:=N1.rc.lt
 have F6:Gm.Fr W W2 w w6:=F2.out.below b26
 have L6:Lo W2 w6 l fs:=L2.out.below b26
 refine⟨_,W2,(show Ending.returned (.tuple #[.agg (s9.A I T),.int .i64 nx,.int .i64 0])=_ by rw[HNX.out]),?_,L6.turn (fun j hj=>P4.off.block j (L6.lt hj) (HS2.out j hj)) P4.off.size,fr_put F6 P4 (by omega)⟩
 have I6:=hI.below b26
 have T6:=hT.below b26
 exact⟨I,T,rfl,(I6.off P4.off (by omega)).mono (by omega),(T6.off P4.off (by omega)).mono (by omega)⟩
end
end Go.Proofs.YtjlhohljkedbbaaGreat.Lg
namespace Go.Proofs.YtjlhohljkedbbaaGreat.Gm
open Go.RowKit
section
variable {ops:Array Oper}{rest:List Oper}{o:Oper}{a:Act}{Q:Exit->Act->World->Prop}{t:TypeId}{u v:Value}
theorem wpList_box1 (w:World) (hg:o.guard=none) (x:Operand) (hop:o.op=Op.box t x) (hx:a.eval x=v) (hv:v.cells=#[v])
  (h:∀ w' b,New w w' b t #[v]->wpList Tryz.prog ops Q rest (a.put o.dst (.pointer (some ⟨b,0,none⟩))) w'):wpList Tryz.prog ops Q (o ::rest) a w:=by
 refine wpList_plain hg fun K' hK'=>?_
 unfold Oper.wp
 simp[execOp,hop,hx,Instr.box,Result.andThen,hv]
 exact hK' _ _ (h (w.alloc (.cells v.cells t)) w.heap.size ⟨by rw[hv];exact At.new _ _ _,bl1 _,rfl⟩)
theorem wpList_new1 (w:World) (hz:∀ w,(zeroValue t).run Tryz.prog w=.ok v w) (hv:v.cells=#[v]) (hg:o.guard=none) (hop:o.op=Op.alloc t)
  (h:∀ w' b,New w w' b t #[v]->wpList Tryz.prog ops Q rest (a.put o.dst (.pointer (some ⟨b,0,none⟩))) w'):wpList Tryz.prog ops Q (o ::rest) a w:=by
 refine wpList_plain hg fun K' hK'=>?_
 unfold Oper.wp
 simp[execOp,hop,Instr.alloc,hz,Result.andThen,hv]
 exact hK' _ _ (h (w.alloc (.cells v.cells t)) w.heap.size ⟨by rw[hv];exact At.new _ _ _,bl1 _,rfl⟩)
theorem put1_of {w:World} {b:Nat} (hs:At w b t #[u]):Put w (w.setCell ⟨b,0,none⟩ v) b t #[v]:=by
 refine⟨hs.set 0 v,fun j hj=>?_,fun W hW=>⟨rfl,rfl,rfl,by simp[World.setCell],fun j _ hn=>?_,fun _ h=>Or.inl h⟩⟩
 ·exact Below.heap_setCell w _ v j (fun e=>hj e)
 ·exact Below.heap_setCell w _ v j (fun e=>hn (by rw[e];exact hW))
theorem wpList_put1 {b:Nat} (w:World) (hg:o.guard=none) (x y:Operand) (hop:o.op=Op.store t x y) (hx:a.eval x=.pointer (some ⟨b,0,none⟩)) (hy:a.eval y=v) (hs:At w b t #[u]) (h1:v.oneCell'=true) (hi:(Tryz.prog.info? t).map (·.size)=some 1)
  (h:∀ w',Put w w' b t #[v]->wpList Tryz.prog ops Q rest (a.put o.dst undef) w'):wpList Tryz.prog ops Q (o ::rest) a w :=
 wpList_set1 w hg t x y hop hx hy (u:=u) (by rw[hs.c];rfl) (hs.f 0) h1 hi fun w' e=>by
  subst e
  exact h _ (put1_of hs)
end
end Go.Proofs.YtjlhohljkedbbaaGreat.Gm
namespace Go.Proofs.YtjlhohljkedbbaaGreat.Lg
open Go.RowKit Go.Maps Go.ChangeMaps
open Gm (thn bl1 bdr)
structure Tel (fs:List ByteArray) (T:FuncId) (cs:Array Value) (J:Nat->(Nat->Prop)->World->Prop):Prop where
 en:∀ args w,(callFunc T args).run Tryz.prog w=.ok (.enter T args) w
 lt:∀ i V w,J i V w->∀ j,V j->j<w.heap.size
 keep:∀ i V w w',J i V w->(∀ j,V j->w'.heap[j]?=w.heap[j]?)->w.heap.size<=w'.heap.size->J i V w'
 step:∀ i (hi:i<fs.length) V w I0 T0,J i V w->I0.oneCell'=true->T0.oneCell'=true->Calls Tryz.prog T (#[.agg ((recF fs[i]).s.A I0 T0),.int .i64 (pla fs i)]++cs) w fun e w'=>e=.returned (.tuple #[])/\∃ V',J (i+1) V' w'/\Gm.Fr V V' w w'
section
variable {V:Nat->Prop}{w w' w2:World}{b5 i:Nat}{fs:List ByteArray}{T:FuncId}{J:Nat->(Nat->Prop)->World->Prop}{t:TypeId}{I0 T0:Value}
structure E1O (V:Nat->Prop) (w:World) (J:Nat->(Nat->Prop)->World->Prop) (i:Nat) (e:Ending) (w':World):Prop where
 ex:e=.returned .nilIface/\∃ V',J (i+1) V' w'/\Gm.Fr V V' w w'
set_option maxHeartbeats 1000000 in
theorem each1_1 {c1:Value} (hT:Tel fs T #[c1] J) (hi:i<fs.length) (hJ:J i V w) (hb:Gm.At w b5 t #[.func (.func T) #[] #[c1]]) (hI:I0.oneCell'=true) (hT0:T0.oneCell'=true) :
  Calls Tryz.prog 73 #[.agg ((recF fs[i]).s.A I0 T0),.int .i64 (pla fs i),.pointer (some ⟨b5,0,none⟩)] w fun e w'=>E1O V w J i e w':=by
 have CT:Hid (∀ wx,Below w.heap.size w wx->Calls Tryz.prog T #[.agg ((recF fs[i]).s.A I0 T0),.int .i64 (pla fs i),c1] wx fun e w'=>e=.returned (.tuple #[])/\∃ V',J (i+1) V' w'/\Gm.Fr V V' wx w'):=fun wx hx=>hT.step i hi V wx I0 T0 (hT.keep i V w wx hJ (fun j hj=>hx.block j (hT.lt i V w hJ j hj)) hx.size) hI hT0
 have eg:=hT.en
 have HB:Hid (∀ wx,Below w.heap.size w wx->wx.cell? ⟨b5,0,none⟩=some (.func (.func T) #[] #[c1])):=fun wx hx=>(hb.bel hx).c 0
 clear hT hJ hb
 generalize pla fs i=x at *
 generalize (recF fs[i]).s=s at *
 go_enter Tryz.func73,Tryz.ntmps73
 go_wp2_with first
  | (refine wpList_box_rc (s:=s) (I:=I0) (T:=T0) _ rfl _ rfl rfl ?_;intro w1 b1 N1;have k5:w1.cell? ⟨b5,0,none⟩=some (.func (.func T) #[] #[c1]):=HB.out _ N1.below)
  | (refine wpList_load_rc _ rfl (.tmp 3) rfl rfl N1.rc ?_)
  | (go_at_fn T;refine(CT.out _ N1.below).mono ?_;rintro e w2 ⟨rfl,V',hJ',hF'⟩)
 go_ret
 exact⟨rfl,V',hJ',(Gm.Fr.of_below N1.below V).trans hF'⟩
set_option maxHeartbeats 1000000 in
theorem each1_2 {c1 c2:Value} (hT:Tel fs T #[c1,c2] J) (hi:i<fs.length) (hJ:J i V w) (hb:Gm.At w b5 t #[.func (.func T) #[] #[c1,c2]]) (hI:I0.oneCell'=true) (hT0:T0.oneCell'=true) :
  Calls Tryz.prog 73 #[.agg ((recF fs[i]).s.A I0 T0),.int .i64 (pla fs i),.pointer (some ⟨b5,0,none⟩)] w fun e w'=>E1O V w J i e w':=by
 have CT:Hid (∀ wx,Below w.heap.size w wx->Calls Tryz.prog T #[.agg ((recF fs[i]).s.A I0 T0),.int .i64 (pla fs i),c1,c2] wx fun e w'=>e=.returned (.tuple #[])/\∃ V',J (i+1) V' w'/\Gm.Fr V V' wx w'):=fun wx hx=>hT.step i hi V wx I0 T0 (hT.keep i V w wx hJ (fun j hj=>hx.block j (hT.lt i V w hJ j hj)) hx.size) hI hT0
 have eg:=hT.en
 have HB:Hid (∀ wx,Below w.heap.size w wx->wx.cell? ⟨b5,0,none⟩=some (.func (.func T) #[] #[c1,c2])):=fun wx hx=>(hb.bel hx).c 0
 clear hT hJ hb
 generalize pla fs i=x at *
 generalize (recF fs[i]).s=s at *
 go_enter Tryz.func73,Tryz.ntmps73
 go_wp2_with first
  | (refine wpList_box_rc (s:=s) (I:=I0) (T:=T0) _ rfl _ rfl rfl ?_;intro w1 b1 N1;have k5:w1.cell? ⟨b5,0,none⟩=some (.func (.func T) #[] #[c1,c2]):=HB.out _ N1.below)
  | (refine wpList_load_rc _ rfl (.tmp 3) rfl rfl N1.rc ?_)
  | (go_at_fn T;refine(CT.out _ N1.below).mono ?_;rintro e w2 ⟨rfl,V',hJ',hF'⟩)
 go_ret
 exact⟨rfl,V',hJ',(Gm.Fr.of_below N1.below V).trans hF'⟩
end
structure Tl (fs:List ByteArray) (T:FuncId) (cs:Array Value) (J:Nat->(Nat->Prop)->World->Prop):Prop where
 lt:∀ i V w,J i V w->∀ j,V j->j<w.heap.size
 keep:∀ i V w w',J i V w->(∀ j,V j->w'.heap[j]?=w.heap[j]?)->w.heap.size<=w'.heap.size->J i V w'
 e1:∀ i (hi:i<fs.length) V w b5 t I0 T0,J i V w->Gm.At w b5 t #[.func (.func T) #[] cs]->I0.oneCell'=true->T0.oneCell'=true->Calls Tryz.prog 73 #[.agg ((recF fs[i]).s.A I0 T0),.int .i64 (pla fs i),.pointer (some ⟨b5,0,none⟩)] w fun e w'=>E1O V w J i e w'
structure Ov (W0 V0:Nat->Prop) (w0:World) (l:Nat) (fs:List ByteArray) (J:Nat->(Nat->Prop)->World->Prop) (i:Nat) (w:World):Prop where
 ex:∃ W V,Lo W w l fs/\J i V w/\(∀ j,W j->¬ V j)/\(∀ j,W j->W0 j∨w0.heap.size<=j)/\(∀ j,V j->V0 j∨w0.heap.size<=j)
 os:w.os=w0.os
 tape:w.tape=w0.tape
 output:w.output=w0.output
 size:w0.heap.size<=w.heap.size
 blk:∀ j,j<w0.heap.size->¬ W0 j->¬ V0 j->w.heap[j]?=w0.heap[j]?
section
variable {W V W0 V0:Nat->Prop}{w w' w0 w2:World}{l b5 i:Nat}{fs:List ByteArray}{T:FuncId}{cs:Array Value}{J:Nat->(Nat->Prop)->World->Prop}{t:TypeId}{I0 T0 c1 c2:Value}
theorem Tel.tl1 (h:Tel fs T #[c1] J):Tl fs T #[c1] J:=⟨h.lt,h.keep,fun i hi V w b5 t I0 T0 hJ hb hI hT=>each1_1 h hi hJ hb hI hT⟩
theorem Tel.tl2 (h:Tel fs T #[c1,c2] J):Tl fs T #[c1,c2] J:=⟨h.lt,h.keep,fun i hi V w b5 t I0 T0 hJ hb hI hT=>each1_2 h hi hJ hb hI hT⟩
theorem Ov.start (h:Lo W w l fs) (hJ:J i V w) (hd:∀ j,W j->¬ V j):Ov W V w l fs J i w:=⟨⟨W,V,h,hJ,hd,fun _ h=>Or.inl h,fun _ h=>Or.inl h⟩,rfl,rfl,rfl,Nat.le_refl _,fun _ _ _ _=>rfl⟩
theorem Ov.below (hT:Tl fs T cs J) (h:Ov W0 V0 w0 l fs J i w) (hb:Below w.heap.size w w'):Ov W0 V0 w0 l fs J i w':=by
 obtain⟨W,V,h1,h2,h3,h4,h5⟩:=h.ex
 exact⟨⟨W,V,h1.below hb,hT.keep i V w w' h2 (fun j hj=>hb.block j (hT.lt i V w h2 j hj)) hb.size,h3,h4,h5⟩,hb.os.trans h.os,hb.tape.trans h.tape,hb.output.trans h.output,Nat.le_trans h.size hb.size,fun j hj n1 n2=>(hb.block j (Nat.lt_of_lt_of_le hj h.size)).trans (h.blk j hj n1 n2)⟩
theorem Ov.at_ (h:Ov W0 V0 w0 l fs J i w) {A:Array Value} (hb:Gm.At w0 b5 t A) (n1:¬ W0 b5) (n2:¬ V0 b5):Gm.At w b5 t A:=hb.keep (h.blk b5 hb.lt n1 n2)
theorem Ov.end_ (h:Ov W0 V0 w0 l fs J i w):Calls Tryz.prog 32 #[.pointer (some ⟨l,0,none⟩)] w fun e w'=>e=.returned (.int .i64 (((cat fs).size:Int)+1))/\w'=w:=by
 obtain⟨W,V,h1,_⟩:=h.ex
 exact h1.end_
structure OvR (W0 V0:Nat->Prop) (w0:World) (l:Nat) (fs:List ByteArray) (J:Nat->(Nat->Prop)->World->Prop) (i:Nat) (m:Rm) (w:World) (e:Ending) (w':World):Prop where
 ex:∃ v,e=.returned (.tuple #[v,.int .i64 (pla fs (i+1)),.int .i64 0])/\RecF w' v m w.heap.size
 ov:Ov W0 V0 w0 l fs J i w'
theorem Ov.read (hT:Tl fs T cs J) (h:Ov W0 V0 w0 l fs J i w) (hi:i<fs.length):Calls Tryz.prog 43 #[.pointer (some ⟨l,0,none⟩),.int .i64 (pla fs i)] w fun e w'=>OvR W0 V0 w0 l fs J i (recF fs[i]) w e w':=by
 obtain⟨W,V,h1,h2,h3,h4,h5⟩:=h.ex
 refine(read_at h1 hi).mono ?_
 rintro e w' ⟨v,W',he,hr,hl,hf⟩
 refine⟨⟨v,he,hr⟩,⟨W',V,hl,hT.keep i V w w' h2 (fun j hj=>hf.blk j (hT.lt i V w h2 j hj) (fun e=>h3 j e hj)) hf.size,fun j hj hv=>?_,fun j hj=>?_,h5⟩,hf.os.trans h.os,hf.tape.trans h.tape,hf.output.trans h.output,Nat.le_trans h.size hf.size,fun j hj n1 n2=>?_⟩
 ·rcases hf.sub j hj with e |e
  ·exact h3 j e hv
  ·have:=hT.lt i V w h2 j hv;omega
 ·rcases hf.sub j hj with e |e
  ·exact h4 j e
  ·exact Or.inr (Nat.le_trans h.size e)
 ·refine(hf.blk j (Nat.lt_of_lt_of_le hj h.size) (fun e=>?_)).trans (h.blk j hj n1 n2)
  rcases h4 j e with e2 |e2
  ·exact n1 e2
  ·omega
theorem Ov.tell (hT:Tl fs T cs J) (h:Ov W0 V0 w0 l fs J i w) (hi:i<fs.length) (hb:Gm.At w0 b5 t #[.func (.func T) #[] cs]) (n1:¬ W0 b5) (n2:¬ V0 b5) (hI:I0.oneCell'=true) (hT0:T0.oneCell'=true) :
  Calls Tryz.prog 73 #[.agg ((recF fs[i]).s.A I0 T0),.int .i64 (pla fs i),.pointer (some ⟨b5,0,none⟩)] w fun e w'=>e=.returned .nilIface/\Ov W0 V0 w0 l fs J (i+1) w':=by
 obtain⟨W,V,h1,h2,h3,h4,h5⟩:=h.ex
 refine(hT.e1 i hi V w b5 t I0 T0 h2 (h.at_ hb n1 n2) hI hT0).mono ?_
 rintro e w' ⟨he,V',hj',hf⟩
 refine⟨he,⟨W,V',h1.fr hf h3,hj',fun j hj hv=>?_,h4,fun j hj=>?_⟩,hf.os.trans h.os,hf.tape.trans h.tape,hf.output.trans h.output,Nat.le_trans h.size hf.size,fun j hj m1 m2=>?_⟩
 ·rcases hf.sub j hv with e |e
  ·exact h3 j hj e
  ·have:=h1.lt hj;omega
 ·rcases hf.sub j hj with e |e
  ·exact h5 j e
  ·exact Or.inr (Nat.le_trans h.size e)
 ·refine(hf.blk j (Nat.lt_of_lt_of_le hj h.size) (fun e=>?_)).trans (h.blk j hj m1 m2)
  rcases h5 j e with e2 |e2
  ·exact m2 e2
  ·omega
set_option maxHeartbeats 2000000 in
theorem over_any (hT:Tl fs T cs J) (h:Lo W w l fs) (hJ:J i V w) (hd:∀ j,W j->¬ V j) (hi:i<=fs.length) (hb:Gm.At w b5 t #[.func (.func T) #[] cs]) (n1:¬ W b5) (n2:¬ V b5) :
  Calls Tryz.prog 72 #[.pointer (some ⟨l,0,none⟩),.int .i64 (pla fs i),.func (.func 73) #[] #[.pointer (some ⟨b5,0,none⟩)]] w fun e w'=>e=.returned .nilIface/\Ov W V w l fs J fs.length w':=by
 have O0:Hid (Ov W V w l fs J i w):=Ov.start h hJ hd
 have hfit:=h.fit
 have HF:Hid (Fit 200 fs):=hfit
 have HT:Hid (Tl fs T cs J):=hT
 have HB:Hid (Gm.At w b5 t #[.func (.func T) #[] cs]/\¬ W b5/\¬ V b5):=⟨hb,n1,n2⟩
 obtain⟨E,hE⟩:∃ E:Int,((cat fs).size:Int)+1=E:=⟨_,rfl⟩
 have HE:Hid (pla fs fs.length=E):=(pla_end fs).trans hE
 have CE:Hid (∀ i wx,Ov W V w l fs J i wx->Calls Tryz.prog 32 #[.pointer (some ⟨l,0,none⟩)] wx fun e w'=>e=.returned (.int .i64 E)/\w'=wx):=fun i wx hx=>by rw[← hE];exact hx.end_
 obtain⟨x0,hx0⟩:∃ x0,pla fs i=x0:=⟨_,rfl⟩
 have HX0:Hid (pla fs i=x0):=hx0
 rw[hx0]
 clear hT h hJ hd hb n1 n2 hfit hE hx0
 go_enter Tryz.func72,Tryz.ntmps72
 go_wp2
 go_loopw [7] (fun s7 wr=>∃ (j:Nat) (x:Int),s7=.int .i64 x/\Hid (pla fs j=x)/\j<=fs.length/\Ov W V w l fs J j wr) (fun s7 _=>(E-intOf s7).toNat)
 case atStart=>exact⟨i,x0,rfl,HX0.out,hi,O0.out⟩
 case round =>
  clear O0
  obtain⟨j,x,rfl,HX,hj,hO⟩:=hrel
  rename World=>wo
  have O:Hid (Ov W V w l fs J j wo):=hO
  clear hO
  by_cases hlt:j<fs.length
  ·have hoff:=off_lt HF.out.frm hlt (Nat.le_refl _)
   have hxE:x<E:=by
    have h1:=HX.out
    have h2:=HE.out
    unfold pla at h1 h2
    omega
   have CR:Hid (∀ wx,Ov W V w l fs J j wx->Calls Tryz.prog 43 #[.pointer (some ⟨l,0,none⟩),.int .i64 x] wx fun e w'=>OvR W V w l fs J j (recF fs[j]) wx e w'):=fun wx hx=>by rw[← HX.out];exact hx.read HT.out hlt
   have CT:Hid (∀ wx I0 T0,Ov W V w l fs J j wx->I0.oneCell'=true->T0.oneCell'=true->Calls Tryz.prog 73 #[.agg ((recF fs[j]).s.A I0 T0),.int .i64 x,.pointer (some ⟨b5,0,none⟩)] wx fun e w'=>e=.returned .nilIface/\Ov W V w l fs J (j+1) w'):=fun wx I0 T0 hx h1 h2=>by rw[← HX.out];exact hx.tell HT.out hlt HB.out.1 HB.out.2.1 HB.out.2.2 h1 h2
   have HXs:Hid (x<pla fs (j+1)):=by
    have h1:=HX.out
    have h3:=(HF.out.frm fs[j] (List.getElem_mem _)).pos
    show x<_
    rw[← h1]
    unfold pla
    rw[off_succ hlt]
    omega
   clear hoff
   generalize recF fs[j]=m at *
   obtain⟨s9,l9,g9⟩:=m
   dsimp only at CT
   go_wp2_with first
    | (go_at_call 32;refine(CE.out _ _ O.out).mono ?_;rintro e w1 ⟨rfl,rfl⟩)
    | (go_at_call 43;refine(CR.out _ O.out).mono ?_;rintro e w2 ⟨⟨v,rfl,hv⟩,ov⟩;have O2:Hid (Ov W V w l fs J j w2):=ov;clear ov;obtain⟨I,T0,rfl,hI,hT0⟩:=hv.ex;dsimp only at hI hT0;obtain⟨nx,hnx⟩:∃ nx,pla fs (j+1)=nx:=⟨_,rfl⟩;rw[hnx];have HN:Hid (pla fs (j+1)=nx):=hnx;clear hnx)
    | (refine wpList_new_rc _ rfl rfl ?_;intro w3 b8 N8)
    | (refine wpList_at (Op.store 54 (.tmp 8) (.tmp 21)) rfl ?_;refine wpList_put_rc (s':=s9) (I':=I) (T':=T0) _ rfl (.tmp 8) (.tmp 21) rfl rfl rfl N8.rc hI.slI.one hT0.slT.one ?_;intro w4 P8;have O4:Hid (Ov W V w l fs J j w4):=O2.out.below HT.out (N8.below.trans (P8.below (by have:=N8.eq;omega) N8.below.size)))
    | (refine wpList_load_rc _ rfl (.tmp 8) rfl rfl P8.rc ?_)
    | (go_at_call 73;refine(CT.out _ _ _ O4.out hI.slI.one hT0.slT.one).mono ?_;rintro e w5 ⟨rfl,ov5⟩;have O5:Hid (Ov W V w l fs J (j+1) w5):=ov5;clear ov5)
   go_roundw
   case rel=>exact⟨j+1,nx,rfl,HN.out,by omega,O5.out⟩
   case measure =>
    have h1:=HXs.out
    have h2:=HN.out
    simp[intOf];omega
  ·obtain rfl:j=fs.length:=by omega
   have hxE:¬ x<E:=by rw[← HX.out,HE.out];omega
   go_wp2_with (go_at_call 32;refine(CE.out _ _ O.out).mono ?_;rintro e w1 ⟨rfl,rfl⟩)
   go_ret
   exact⟨rfl,O.out⟩
end
end Go.Proofs.YtjlhohljkedbbaaGreat.Lg
namespace Go.Proofs.YtjlhohljkedbbaaGreat.Gm
open Go.RowKit
end Go.Proofs.YtjlhohljkedbbaaGreat.Gm
namespace Go.Proofs.YtjlhohljkedbbaaGreat.Rq
open Go.RowKit Gm
abbrev SpL:=Int × Int
def encS (s:SpL):List Value:=[.int .i64 s.1,.int .i64 s.2]
structure Sp (w:World) (v:Value) (L:List SpL):Prop where
 ex:∃ a c,v=.slice a L.length c/\∀ i (hi:i<L.length),∃ g o,a=some ⟨g,o,none⟩/\g<w.heap.size/\w.cell? ⟨g,o+i*2,none⟩=some (.int .i64 L[i].1)/\w.cell? ⟨g,o+i*2+1,none⟩=some (.int .i64 L[i].2)
section
variable {w w':World}{v:Value}{a:Option Addr}{n c:Nat}{L:List SpL}
theorem Sp.bel (h:Sp w v L) (hb:Below w.heap.size w w'):Sp w' v L:=by
 obtain⟨a,c,e,h⟩:=h.ex
 refine⟨a,c,e,fun i hi=>?_⟩
 obtain⟨g,o,ea,hg,h1,h2⟩:=h i hi
 exact⟨g,o,ea,Nat.lt_of_lt_of_le hg hb.size,by rw[World.cell?_of_block (hb.block g hg)];exact h1,by rw[World.cell?_of_block (hb.block g hg)];exact h2⟩
theorem Sp.at_ (h:Sp w (.slice a n c) L) {i:Nat} (hi:i<L.length):∃ g o,a=some ⟨g,o,none⟩/\g<w.heap.size/\w.cell? ⟨g,o+i*2,none⟩=some (.int .i64 L[i].1)/\w.cell? ⟨g,o+i*2+1,none⟩=some (.int .i64 L[i].2):=by
 obtain⟨a',c',e,hh⟩:=h.ex
 cases e
 exact hh i hi
theorem Sp.of_row {t:TypeId} (h:Gm.Row w t 2 v (L.map encS)):Sp w v L:=by
 obtain⟨a,c,e,_⟩:=h.sl
 rw[List.length_map] at e
 refine⟨a,c,e,fun i hi=>?_⟩
 subst e
 have h2:Gm.Row w t 2 (.slice a L.length c) (L.map encS):=h
 obtain⟨g,ea,hg,hat⟩:=h2.at_ (i:=i) (by rw[List.length_map];exact hi)
 have hra:=(hat w rfl).1
 rw[List.getElem_map] at hra
 exact⟨g,0,ea,hg,by have:=hra 0 _ rfl;simpa using this,by have:=hra 1 _ rfl;simpa using this⟩
end
def upN (L:List SpL) (e:Int):Nat:=L.findIdx fun s=>decide (e<s.1)
def upP (L:List SpL) (e en:Int):Int:=((L[upN L e]?).map fun s=>min s.2 en).getD en
theorem upN_le (L:List SpL) (e:Int):upN L e<=L.length:=List.findIdx_le_length
theorem upN_of {L:List SpL} {e:Int} {i:Nat} (hi:i<L.length) (h:e<L[i].1) (hn:∀ j (hj:j<i),¬ e<(L[j]'(by omega)).1):upN L e=i :=
 (List.findIdx_eq hi).2 ⟨by simpa using h,fun j hj=>by simpa using hn j hj⟩
theorem upN_no {L:List SpL} {e:Int} (hn:∀ j (hj:j<L.length),¬ e<L[j].1):upN L e=L.length :=
 List.findIdx_eq_length.2 fun x hx=>by
  obtain⟨j,hj,rfl⟩:=List.getElem_of_mem hx
  simpa using hn j hj
theorem upP_at {L:List SpL} {e en:Int} {i:Nat} (hi:i<L.length) (h:upN L e=i):upP L e en=min L[i].2 en:=by
 unfold upP
 rw[h,List.getElem?_eq_getElem hi]
 rfl
theorem upP_no {L:List SpL} {e en:Int} (h:upN L e=L.length):upP L e en=en:=by
 unfold upP
 rw[h,List.getElem?_eq_none (Nat.le_refl _)]
 rfl
def partM (L:List SpL) (e en:Int):Int × Int:=if upN L e=0 then(0,min 1 en) else((L[upN L e-1]?.map (·.1)).getD 0,upP L e en)
theorem stSp:St 62 2:=⟨⟨_,Tryz.underlying62⟩,by kernel_rfl⟩
theorem zSp (w:World):(zeroValue 62).run Tryz.prog w=.ok (.agg #[.int .i64 0,.int .i64 0]) w:=by kernel_rfl
theorem oneI (x y:Int):∀ u∈(#[.int .i64 x,.int .i64 y]:Array Value).toList,u.oneCell'=true:=by
 intro u hu;simp at hu;rcases hu with rfl |rfl <;> rfl
theorem Put.belN {w w2 w3:World} {b:Nat} {t t':TypeId} {A A':Array Value} (N:New w w2 b t A) (P:Put w2 w3 b t' A'):Below w.heap.size w w3 :=
 N.bel.trans ((P.fr (·=b) rfl).bel (fun j hj=>by rw[hj,N.eq];exact Nat.le_refl _) N.bel.size)
section
variable {w:World}{a:Option Addr}{n c:Nat}{L:List SpL}
theorem upTo_any (h:Sp w (.slice a n c) L) (hL:L.length=n) (hn:n<=100000) (e en:Int):Calls Tryz.prog 77 #[.slice a n c,.int .i64 e,.int .i64 en] w fun x w'=>x=.returned (.tuple #[.int .i64 ((upN L e:Nat):Int),.int .i64 (upP L e en)])/\Below w.heap.size w w':=by
 have HV:Hid (Sp w (.slice a n c) L):=h
 have Hm:Hid (L.length=n):=hL
 have h2:=stSp
 clear h hL
 go_enter Tryz.func77,Tryz.ntmps77
 go_wp2
 go_loopw [12] (fun s12 wr=>∃ i:Nat,s12=.int .i64 (i:Int)/\i<=n/\Below w.heap.size w wr/\Hid (∀ j (hj:j<L.length),j<i->¬ e<L[j].1)) (fun s12 _=>n-(intOf s12).toNat)
 case atStart=>exact⟨0,rfl,Nat.zero_le _,Below.refl _ _,fun j _ hj=>absurd hj (Nat.not_lt_zero _)⟩
 case round =>
  obtain⟨i,rfl,hi,hB,HN⟩:=hrel
  rename World=>wo
  have HB:Hid (Below w.heap.size w wo):=hB
  clear hB
  by_cases hlt:i<n
  ·have hltI:(i:Int)<(n:Int):=by omega
   have hi1:i<L.length:=by have:=Hm.out;omega
   obtain⟨g,o,rfl,_,c0,c1⟩:=(HV.out.bel HB.out).at_ hi1
   by_cases hc:e<L[i].1
   ·have HF:Hid (upN L e=i/\upP L e en=min L[i].2 en):=(by
     have:upN L e=i:=upN_of hi1 hc (fun j hj=>HN.out j (by omega) hj)
     exact⟨this,upP_at hi1 this⟩)
    generalize hx:L[i].1=x at *
    generalize hy:L[i].2=y at *
    clear hx hy hi1
    go_wp2_with first
     | (refine wpList_new_at (A:=#[.int .i64 0,.int .i64 0]) _ zSp rfl rfl ?_;intro w2 b2 N2)
     | (refine wpList_put_at (A:=#[.int .i64 0,.int .i64 0]) (A':=#[.int .i64 x,.int .i64 y]) h2 _ rfl _ _ rfl rfl rfl N2.is rfl rfl (oneI _ _) ?_;intro w3 P3;have k0:w3.cell? ⟨b2,0,none⟩=some (.int .i64 x):=P3.is.c 0;have k1:w3.cell? ⟨b2,1,none⟩=some (.int .i64 y):=P3.is.c 1)
    go_region
    all_goals go_wp2
    all_goals go_ret2
    all_goals refine⟨?_,bdr (thn HB.out (Put.belN N2 P3)) 1⟩
    all_goals rw[HF.out.1,HF.out.2]
    all_goals first
     | exact congrArg (fun z=>Ending.returned (.tuple #[.int .i64 (i:Int),.int .i64 z])) (by omega:y=min y en)
     | exact congrArg (fun z=>Ending.returned (.tuple #[.int .i64 (i:Int),.int .i64 z])) (by omega:en=min y en)
     | exact congrArg (fun z=>Ending.returned (.tuple #[.int .i64 (i:Int),.int .i64 z])) (by split <;> omega:(if en<y then en else y)=min y en)
     | rfl
   ·have HN2:Hid (∀ j (hj:j<L.length),j<i+1->¬ e<L[j].1):=fun j hj hj2=>(Nat.lt_succ_iff_lt_or_eq.1 hj2).elim (fun h=>HN.out j hj h) (fun h=>by subst h;exact hc)
    generalize hx:L[i].1=x at *
    generalize hy:L[i].2=y at *
    clear hx hy hi1
    go_wp2_with first
     | (refine wpList_new_at (A:=#[.int .i64 0,.int .i64 0]) _ zSp rfl rfl ?_;intro w2 b2 N2)
     | (refine wpList_put_at (A:=#[.int .i64 0,.int .i64 0]) (A':=#[.int .i64 x,.int .i64 y]) h2 _ rfl _ _ rfl rfl rfl N2.is rfl rfl (oneI _ _) ?_;intro w3 P3;have k0:w3.cell? ⟨b2,0,none⟩=some (.int .i64 x):=P3.is.c 0;have k1:w3.cell? ⟨b2,1,none⟩=some (.int .i64 y):=P3.is.c 1)
    go_roundw
    case rel=>exact⟨i+1,by rfl,by omega,thn HB.out (Put.belN N2 P3),HN2.out⟩
    case measure=>simp[intOf];omega
  ·have hltI:¬ (i:Int)<(n:Int):=by omega
   have HF:Hid (upN L e=n/\upP L e en=en):=(by
    have:upN L e=L.length:=upN_no (fun j hj=>HN.out j hj (by have:=Hm.out;omega))
    exact⟨by rw[this];exact Hm.out,upP_no this⟩)
   go_wp2
   go_ret2
   exact⟨by rw[HF.out.1,HF.out.2];rfl,HB.out⟩
theorem Part_any (h:Sp w (.slice a n c) L) (hL:L.length=n) (hn:n<=100000) (e en:Int):Calls Tryz.prog 49 #[.slice a n c,.int .i64 e,.int .i64 en] w fun x w'=>x=.returned (.tuple #[.int .i64 (partM L e en).1,.int .i64 (partM L e en).2])/\Below w.heap.size w w':=by
 have C:Hid (Calls Tryz.prog 77 #[.slice a n c,.int .i64 e,.int .i64 en] w fun x w'=>x=.returned (.tuple #[.int .i64 ((upN L e:Nat):Int),.int .i64 (upP L e en)])/\Below w.heap.size w w'):=upTo_any h hL hn e en
 have HV:Hid (Sp w (.slice a n c) L):=h
 have hu:upN L e<=n:=by rw[← hL];exact upN_le L e
 have Hm:Hid (L.length=n):=hL
 have HM:Hid (partM L e en=if upN L e=0 then(0,min 1 en) else((L[upN L e-1]?.map (·.1)).getD 0,upP L e en)):=rfl
 clear h hL
 by_cases h0:upN L e=0
 ·have HM2:Hid (partM L e en=(0,min 1 en)):=HM.out.trans (if_pos h0)
  rw[h0] at C
  rw[HM2.out]
  clear HM hu h0
  generalize upP L e en=q at *
  go_enter Tryz.func49,Tryz.ntmps49
  go_wp2_with (go_at_call 77;refine C.out.mono ?_;rintro x w2 ⟨rfl,b2⟩)
  all_goals go_ret2
  all_goals refine⟨?_,b2⟩
  all_goals first
   | exact congrArg (fun z=>Ending.returned (.tuple #[.int .i64 0,.int .i64 z])) (by omega:1=min 1 en)
   | exact congrArg (fun z=>Ending.returned (.tuple #[.int .i64 0,.int .i64 z])) (by omega:en=min 1 en)
   | exact congrArg (fun z=>Ending.returned (.tuple #[.int .i64 0,.int .i64 z])) (by split <;> omega:(if en<1 then en else 1)=min 1 en)
   | rfl
 ·obtain⟨m,hm⟩:∃ m,upN L e=m+1:=⟨upN L e-1,by omega⟩
  have hi:m<L.length:=by have:=Hm.out;omega
  have HM2:Hid (partM L e en=(L[m].1,upP L e en)):=by
   show _=_
   rw[HM.out,if_neg h0,hm,Nat.add_sub_cancel,List.getElem?_eq_getElem hi]
   rfl
  rw[hm] at C hu
  rw[HM2.out]
  have HC:Hid (∀ wx,Below w.heap.size w wx->∃ g o,a=some ⟨g,o,none⟩/\wx.cell? ⟨g,o+m*2,none⟩=some (.int .i64 L[m].1)):=fun wx hb=>by
   obtain⟨g,o,ea,_,c0,_⟩:=(HV.out.bel hb).at_ hi
   exact⟨g,o,ea,c0⟩
  clear HM hm h0
  generalize upP L e en=q at *
  generalize L[m].1=x1 at *
  have hmI:¬ (((m+1:Nat):Int)=0):=by omega
  have hb1:(((m+1:Nat):Int)==0)=false:=by simpa using hmI
  have hw1:IntKind.i64.wrap (((m+1:Nat):Int)-1)=(m:Int):=by rw[show((m+1:Nat):Int)-1=(m:Int) by omega];rw[IntKind.wrap_i64];omega
  have hmn:(m:Int)<(n:Int):=by omega
  go_enter Tryz.func49,Tryz.ntmps49
  go_wp2_with (go_at_call 77;refine C.out.mono ?_;rintro x w2 ⟨rfl,b2⟩;obtain⟨g,o,rfl,c0⟩:=HC.out _ b2)
  go_ret2
  exact⟨rfl,b2⟩
end
theorem awake15 (w:World):Calls Tryz.prog 21 #[] w fun e w'=>e=.returned (.bool true)/\Below w.heap.size w w':=by
 have C:Hid (∀ wx b,At wx b 62 #[.int .i64 1,.int .i64 1,.int .i64 3,.int .i64 50]->Calls Tryz.prog 49 #[.slice (some ⟨b,0,none⟩) 2 2,.int .i64 2,.int .i64 90] wx fun x w'=>x=.returned (.tuple #[.int .i64 1,.int .i64 50])/\Below wx.heap.size wx w'):=fun wx b hA=>by
  have hS:Sp wx (.slice (some ⟨b,0,none⟩) 2 2) [(1,1),(3,50)]:=⟨_,2,rfl,fun i hi=>⟨b,0,rfl,hA.lt,by
   match i,hi with
   | 0,_=>exact hA.c 0
   | 1,_=>exact hA.c 2,by
   match i,hi with
   | 0,_=>exact hA.c 1
   | 1,_=>exact hA.c 3⟩⟩
  exact Part_any hS rfl (by omega) 2 90
 go_enter Tryz.func21,Tryz.ntmps21
 go_wp2_with (go_at_call 49;refine(C.out _ _ (At.new _ _ _)).mono ?_;rintro x w2 ⟨rfl,q2⟩)
 go_ret
 exact⟨rfl,thn (bl1 _) q2⟩
end Go.Proofs.YtjlhohljkedbbaaGreat.Rq
namespace Go.Proofs.YtjlhohljkedbbaaGreat.Lg
open Go.RowKit Go.Maps Go.ChangeMaps
open Gm (thn bl1 bdr)
section
variable {W V:Nat->Prop}{w w' w2:World}{l i:Nat}{fs:List ByteArray}{T:FuncId}{cs:Array Value}{J:Nat->(Nat->Prop)->World->Prop}{t:TypeId}
theorem each_any (hT:Tl fs T cs J) (h:Lo W w l fs) (hJ:J i V w) (hd:∀ j,W j->¬ V j) (hi:i<=fs.length) :
  Calls Tryz.prog 44 #[.pointer (some ⟨l,0,none⟩),.int .i64 (pla fs i),.func (.func T) #[] cs] w fun e w'=>e=.returned (.tuple #[])/\Ov W V w l fs J fs.length w':=by
 have CO:Hid (∀ wx b t,Gm.New w wx b t #[.func (.func T) #[] cs]->Calls Tryz.prog 72 #[.pointer (some ⟨l,0,none⟩),.int .i64 (pla fs i),.func (.func 73) #[] #[.pointer (some ⟨b,0,none⟩)]] wx fun e w'=>e=.returned .nilIface/\Ov W V w l fs J fs.length w'):=fun wx b t hN=>by
  have hWl:¬ W b:=fun e=>by have:=h.lt e;have:=hN.eq;omega
  have hVl:¬ V b:=fun e=>by have:=hT.lt i V w hJ b e;have:=hN.eq;omega
  refine(over_any hT (h.below hN.bel) (hT.keep i V w wx hJ (fun j hj=>hN.bel.block j (hT.lt i V w hJ j hj)) hN.bel.size) hd hi hN.is hWl hVl).mono ?_
  rintro e w' ⟨he,ho⟩
  refine⟨he,?_⟩
  obtain⟨W',V',g1,g2,g3,g4,g5⟩:=ho.ex
  have hs:=hN.bel.size
  exact⟨⟨W',V',g1,g2,g3,fun j hj=>(g4 j hj).imp id (fun e=>Nat.le_trans hs e),fun j hj=>(g5 j hj).imp id (fun e=>Nat.le_trans hs e)⟩,ho.os.trans hN.bel.os,ho.tape.trans hN.bel.tape,ho.output.trans hN.bel.output,Nat.le_trans hs ho.size,fun j hj n1 n2=>(ho.blk j (Nat.lt_of_lt_of_le hj hs) n1 n2).trans (hN.bel.block j hj)⟩
 clear hT h hJ hd
 generalize pla fs i=x at *
 go_enter Tryz.func44,Tryz.ntmps44
 go_wp2_with first
  | (refine Gm.wpList_box1 (v:=.func (.func T) #[] cs) _ rfl _ rfl rfl rfl ?_;intro w1 b1 N1)
  | (go_at_call 72;refine(CO.out _ _ _ N1).mono ?_;rintro e w2 ⟨rfl,ho⟩)
 go_end0
 exact⟨rfl,ho⟩
end
def rcd (fs:List ByteArray) (i:Nat):Sc:=(recF (fs.getD i ⟨#[]⟩)).s
theorem rcd_at {fs:List ByteArray} {i:Nat} (h:i<fs.length):(recF fs[i]).s=rcd fs i:=by
 unfold rcd
 rw[List.getD_eq_getElem?_getD,List.getElem?_eq_getElem h]
 rfl
def accM {α:Type} (fs:List ByteArray) (f:Sc->Int->List α):Nat->List α
 | 0=>[]
 | i+1=>accM fs f i++f (rcd fs i) (pla fs i)
def lstM {α:Type} (fs:List ByteArray) (g:Sc->Int->Option α) (z:α):Nat->α
 | 0=>z
 | i+1=>(g (rcd fs i) (pla fs i)).getD (lstM fs g z i)
def spF (s:Sc) (x:Int):List Rq.SpL:=if s.kd=10 then [(s.ep,x)] else []
def cmF (en:Int) (s:Sc) (x:Int):List Rq.SpL:=if s.kd=7/\x<en then [(s.tx,x)] else []
def ckF (s:Sc) (x:Int):Option Int:=if s.kd=9 then some x else none
def ldF (s:Sc) (x:Int):Option (Int × Int):=if s.kd=10 then some (s.ep,s.nd) else none
theorem acc_len {α:Type} {fs:List ByteArray} {f:Sc->Int->List α} (hf:∀ s x,(f s x).length<=1):∀ i,(accM fs f i).length<=i
 | 0=>Nat.le_refl _
 | i+1=>by
  have:=acc_len (fs:=fs) hf i
  have:=hf (rcd fs i) (pla fs i)
  unfold accM
  rw[List.length_append]
  omega
theorem spF_len (s:Sc) (x:Int):(spF s x).length<=1:=by unfold spF;split <;> simp
theorem cmF_len (en:Int) (s:Sc) (x:Int):(cmF en s x).length<=1:=by unfold cmF;split <;> simp
theorem fs_len {fs:List ByteArray} (h:Fit 200 fs):fs.length<=11600:=by
 have:=fit_len h
 have h2:=h.sz
 have h3:=off_inj h.frm (i:=fs.length) (j:=fs.length) (Nat.le_refl _) (Nat.le_refl _) rfl
 have h4:∀ (l:List ByteArray),(∀ f∈l,Frm f)->l.length<=(cat l).size:=by
  intro l
  induction l with
  | nil=>intro _;exact Nat.zero_le _
  | cons a l ih =>
   intro hl
   have:=ih (fun f hf=>hl f (List.mem_cons_of_mem _ hf))
   have:=(hl a (List.mem_cons_self ..)).pos
   have e:(cat (a ::l)).size=a.size+(cat l).size:=by rw[cat,bsz]
   rw[e,List.length_cons]
   omega
 have:=h4 fs h.frm
 omega
theorem elP {sl el:TypeId} (hsl:Tryz.prog.underlying sl=some (.slice el)) (hi:(Tryz.prog.info? el).map (fun i=>(i.zero,i.size,i.bytes))=some (some (.agg #[.int .i64 0,.int .i64 0]),2,16)):Gm.El sl el 2 (.agg #[.int .i64 0,.int .i64 0]):=⟨hsl,by
 obtain⟨i,h1,h2,h3,h4⟩:=info_parts hi
 exact⟨i,h1,h2,h3,by omega⟩,rfl,by omega⟩
theorem elSp:Gm.El 60 62 2 (.agg #[.int .i64 0,.int .i64 0]):=elP Tryz.underlying60 (by kernel_rfl)
theorem elAc:Gm.El 35 40 2 (.agg #[.int .i64 0,.int .i64 0]):=elP Tryz.underlying35 (by kernel_rfl)
structure Sv2 (b:Nat) (sl el:TypeId) (L:List Rq.SpL) (V:Nat->Prop) (w:World):Prop where
 ex:∃ v,Gm.At w b sl #[v]/\Gm.Row w el 2 v (L.map Rq.encS)/\∀ j,V j↔(j=b∨v.ownBlock=some j)
section
variable {V:Nat->Prop}{w w':World}{b:Nat}{sl el:TypeId}{L:List Rq.SpL}
theorem Sv2.lt (h:Sv2 b sl el L V w) {j:Nat} (hj:V j):j<w.heap.size:=by
 obtain⟨v,h1,h2,h3⟩:=h.ex
 rcases (h3 j).1 hj with rfl |e
 ·exact h1.lt
 ·exact h2.lt e
theorem Sv2.keep (h:Sv2 b sl el L V w) (hb:∀ j,V j->w'.heap[j]?=w.heap[j]?):Sv2 b sl el L V w':=by
 obtain⟨v,h1,h2,h3⟩:=h.ex
 exact⟨v,h1.keep (hb b ((h3 b).2 (Or.inl rfl))),h2.keep (fun g e=>hb g ((h3 g).2 (Or.inr e))),h3⟩
end
section
variable {V:Nat->Prop}{w w1 w' w8 w9 w10:World}{b:Nat}{sl el:TypeId}{L:List Rq.SpL}{s:Sc}{x en:Int}{I T v v2:Value}
theorem sv_push (h1:Gm.At w b sl #[v]) (h2:Gm.Row w el 2 v (L.map Rq.encS)) (h3:∀ j,V j↔(j=b∨v.ownBlock=some j)) (hne:el≠sl) (hB:Below w.heap.size w w8) (hA:Gm.App w8 w9 el 2 v v2 (L.map Rq.encS++[Rq.encS (x,en)])) (hP:Gm.Put w9 w10 b sl #[v2]) :
  ∃ V',Sv2 b sl el (L++[(x,en)]) V' w10/\Gm.Fr V V' w w10:=by
 have hb9:Gm.At w9 b sl #[v]:=(h1.bel hB).keep (hA.grow.block b (h1.bel hB).lt (fun e=>h2.ne (g:=b) h1 hne e.symm))
 refine⟨fun j=>j=b∨v2.ownBlock=some j,⟨v2,hP.is,?_,fun j=>Iff.rfl⟩,?_⟩
 ·rw[List.map_append]
  exact hA.row.keep fun g e=>hP.off g (fun e2=>hA.row.ne (g:=b) hb9 hne (e2 ▸ e))
 ·have f1:Gm.Fr V V w w8:=Gm.Fr.of_below hB V
  have f2:Gm.Fr V (fun j=>j=b∨v2.ownBlock=some j) w8 w9:=hA.fr (fun g e=>(h3 g).2 (Or.inr e)) (fun j hj=>hj.elim (fun e=>Or.inl ((h3 j).2 (Or.inl e))) Or.inr)
  exact(f1.trans f2).trans (hP.fr _ (Or.inl rfl))
set_option maxHeartbeats 1000000 in
theorem spans1 (h:Sv2 b 60 62 L V w) (hL:L.length<=80000) (hI:I.oneCell'=true) (hT:T.oneCell'=true):Calls Tryz.prog 52 #[.agg (s.A I T),.int .i64 x,.pointer (some ⟨b,0,none⟩)] w fun e w'=>e=.returned (.tuple #[])/\∃ V',Sv2 b 60 62 (L++spF s x) V' w'/\Gm.Fr V V' w w':=by
 obtain⟨v,h1,h2,h3⟩:=h.ex
 have i1:(Tryz.prog.info? 60).map (·.size)=some 1:=by kernel_rfl
 obtain⟨kd,tx,pv,pg,ac,ky,ol,nw,nx,ep,nd⟩:=s
 by_cases hk:kd=10
 ·have HF:Hid (spF ⟨kd,tx,pv,pg,ac,ky,ol,nw,nx,ep,nd⟩ x=[(ep,x)]):=if_pos hk
  rw[HF.out]
  subst hk
  obtain⟨a,d,e,-⟩:=h2.sl
  have hlm:(L.map Rq.encS).length=L.length:=List.length_map ..
  rw[hlm] at e
  subst e
  have H1:Hid (Gm.At w b 60 #[.slice a L.length d]):=h1
  have H2:Hid (Gm.Row w 62 2 (.slice a L.length d) (L.map Rq.encS)):=h2
  have H3:Hid (∀ j,V j↔(j=b∨(Value.slice a L.length d).ownBlock=some j)):=h3
  have HLm:Hid ((L.map Rq.encS).length=L.length/\L.length<=80000):=⟨hlm,hL⟩
  clear h h1 h2 h3 HF hlm hL
  obtain⟨n,hn⟩:∃ n,L.length=n:=⟨_,rfl⟩
  rw[hn] at H1 H2 H3 HLm
  clear hn
  go_enter Tryz.func52,Tryz.ntmps52
  go_wp2_with first
   | (refine wpList_box_rc (s:=⟨10,tx,pv,pg,ac,ky,ol,nw,nx,ep,nd⟩) (I:=I) (T:=T) _ rfl _ rfl rfl ?_;intro w1 b1 N1;have c0:w1.cell? ⟨b1,0,none⟩=some (.int .i64 10):=N1.rc.c0;have c11:w1.cell? ⟨b1,11,none⟩=some (.int .i64 ep):=N1.rc.c11;have kb:w1.cell? ⟨b,0,none⟩=some (.slice a n d):=(H1.out.bel N1.below).c 0)
   | (refine Gm.wpList_push elSp (A:=#[.int .i64 ep,.int .i64 x]) rfl _ _ rfl rfl ((H2.out.bel N1.below).bel (bl1 _)) rfl (Gm.At.new _ _ _) rfl (Rq.oneI _ _) (by have:=HLm.out;omega) ?_;intro a2 d2 w9 A9;rw[HLm.out.1] at A9 ⊢)
   | (refine Gm.wpList_put1 (u:=.slice a n d) (v:=.slice a2 (n+1) d2) _ rfl _ _ rfl rfl rfl (((H1.out.bel N1.below).bel (bl1 _)).keep (A9.grow.block b ((H1.out.bel N1.below).bel (bl1 _)).lt (fun e=>H2.out.ne (g:=b) H1.out (by decide) e.symm))) rfl i1 ?_;intro w10 P10)
  go_end0
  exact⟨rfl,sv_push H1.out H2.out H3.out (by decide) (thn N1.below (bl1 _)) A9 P10⟩
 ·have HF:Hid (spF ⟨kd,tx,pv,pg,ac,ky,ol,nw,nx,ep,nd⟩ x=[]):=if_neg hk
  rw[HF.out,List.append_nil]
  have hk2:(kd==10)=false:=by simpa using hk
  have H:Hid (Sv2 b 60 62 L V w):=h
  clear HF h h1 h2 h3 hL
  go_enter Tryz.func52,Tryz.ntmps52
  go_wp2_with (refine wpList_box_rc (s:=⟨kd,tx,pv,pg,ac,ky,ol,nw,nx,ep,nd⟩) (I:=I) (T:=T) _ rfl _ rfl rfl ?_;intro w1 b1 N1;have c0:w1.cell? ⟨b1,0,none⟩=some (.int .i64 kd):=N1.rc.c0)
  go_end0
  exact⟨rfl,V,H.out.keep (fun j hj=>N1.below.block j (H.out.lt hj)),Gm.Fr.of_below N1.below V⟩
end
end Go.Proofs.YtjlhohljkedbbaaGreat.Lg
