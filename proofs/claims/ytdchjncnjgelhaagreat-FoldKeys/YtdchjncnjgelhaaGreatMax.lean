import Derived.Test.YtdchjncnjgelhaaGreatMaw
set_option linter.unusedVariables false
set_option linter.unusedSimpArgs false
set_option maxRecDepth 100000
namespace Go.Proofs.YtdchjncnjgelhaaGreat.Fd
open Go.RowKit Gm Go.Maps
def zCh:Array Value:=#[.int .i64 0,.string ⟨#[]⟩,.bool false]
theorem elCh:El 66 71 3 (.agg zCh):=⟨Tryz.underlying66,by
 obtain⟨i,h1,h2,h3,h4⟩:=info_parts (show(Tryz.prog.info? 71).map (fun i=>(i.zero,i.size,i.bytes))=some (some (.agg zCh),3,32) by kernel_rfl)
 exact⟨i,h1,h2,h3,by omega⟩,rfl,by omega⟩
section
variable {Wl Wl' S W W':Nat->Prop}{w wR wr wx w':World}{fb l:Nat}{s s':Fs}{r:Rc}{I T v v':Value}{C:List (Int × Hs)}{i:Nat}{fs:List ByteArray}
structure KyS (Wl Wl' S:Nat->Prop) (w wR wr:World) (fb:Nat) (s:Fs) (v:Value) (C:List (Int × Hs)):Prop where
 ex:∃ W,Fo W wr fb s.K s.G s.n/\(∀ j,W j->w.heap.size<=j)/\(∀ j,W j->¬ S j)/\∀ j,v.ownBlock=some j->¬ W j
 keep:∀ j,S j->wr.heap[j]?=wR.heap[j]?
 slt:∀ j,S j->j<wR.heap.size
 fr:Gm.Fr Wl Wl' w wr
 sz:wR.heap.size<=wr.heap.size
 row:Gm.Row wr 71 3 v (C.map encH)
 sb:∀ j,v.ownBlock=some j->w.heap.size<=j/\¬ S j
theorem KyS.step (h:KyS Wl Wl' S w wR wr fb s v C) (hW:(∀ j,W j->w.heap.size<=j)/\(∀ j,W j->¬ S j)/\∀ j,v.ownBlock=some j->¬ W j) (hf:Gm.Fr W W' wr w') (ho:Fo W' w' fb s'.K s'.G s'.n):KyS Wl Wl' S w wR w' fb s' v C:=by
 refine⟨⟨W',ho,fun j hj=>?_,fun j hj hs=>?_,fun j hj hw=>?_⟩,fun j hs=>?_,h.slt,⟨hf.os.trans h.fr.os,hf.tape.trans h.fr.tape,hf.output.trans h.fr.output,Nat.le_trans h.fr.size hf.size,fun j hj hn=>?_,h.fr.sub⟩,Nat.le_trans h.sz hf.size,h.row.keep fun j hj=>hf.blk j (h.row.lt hj) (hW.2.2 j hj),h.sb⟩
 ·exact(hf.sub j hj).elim (hW.1 j) (fun e=>Nat.le_trans h.fr.size e)
 ·rcases hf.sub j hj with e |e
  ·exact hW.2.1 j e hs
  ·have:=h.slt j hs;have:=h.sz;omega
 ·rcases hf.sub j hw with e |e
  ·exact hW.2.2 j hj e
  ·have:=h.row.lt hj;omega
 ·exact(hf.blk j (Nat.lt_of_lt_of_le (h.slt j hs) h.sz) (fun e=>hW.2.1 j e hs)).trans (h.keep j hs)
 ·exact(hf.blk j (Nat.lt_of_lt_of_le hj h.fr.size) (fun e=>by have:=hW.1 j e;omega)).trans (h.fr.blk j hj hn)
theorem KyS.below (h:KyS Wl Wl' S w wR wr fb s v C) (hb:Below wr.heap.size wr w'):KyS Wl Wl' S w wR w' fb s v C:=by
 obtain⟨W,h1,h2⟩:=h.ex
 exact h.step h2 (Gm.Fr.of_below hb W) (h1.bel hb)
theorem KyS.note2 (h:KyS Wl Wl' S w wR wr fb s v C) (hb:Bd s i) (hi:i<=500) (hr:RcW r):Calls Tryz.prog 54 #[.pointer (some ⟨fb,0,none⟩),.agg (r.A I T)] wr fun e w'=>e=.returned (.tuple #[])/\KyS Wl Wl' S w wR w' fb (noteF s r) v C:=by
 obtain⟨W,h1,h2⟩:=h.ex
 refine(Note_bd h1 hb hi hr.t hr.k).mono ?_
 rintro e w' ⟨rfl,W',h3,h4⟩
 exact⟨rfl,h.step h2 h4 h3⟩
theorem KyS.pa (h:KyS Wl Wl' S w wR wr fb s v C):s.G.Pairwise fun a b=>a.txn≠b.txn:=by obtain⟨W,h1,_⟩:=h.ex;exact h1.nd
theorem KyS.push {x:Int × Hs} (h:KyS Wl Wl' S w wR wr fb s v C) (A:App wr w' 71 3 v v' (C.map encH++[encH x])):KyS Wl Wl' S w wR w' fb s v' (C++[x]):=by
 obtain⟨W,h1,h2,h3,h4⟩:=h.ex
 have hk:∀ b,b<wr.heap.size->v.ownBlock≠some b->w'.heap[b]?=wr.heap[b]?:=fun b hl hn=>A.grow.block b hl (fun e=>hn e.symm)
 have hv':∀ j,v'.ownBlock=some j->v.ownBlock=some j∨j=wr.heap.size:=fun j e=>by
  rcases A.own with e2 |e2
  ·exact Or.inl (e2.symm.trans e)
  ·rw[e2] at e;cases e;exact Or.inr rfl
 have hsz:wr.heap.size<=w'.heap.size:=A.grow.size
 refine⟨⟨W,h1.keep (fun j hj=>hk j (h1.lt j hj) fun e=>h4 j e hj) hsz,h2,h3,fun j hj hw=>?_⟩,fun j hs=>?_,h.slt,?_,Nat.le_trans h.sz hsz,?_,fun j hj=>?_⟩
 ·rcases hv' j hj with e |e
  ·exact h4 j e hw
  ·have:=h1.lt j hw;omega
 ·exact(hk j (Nat.lt_of_lt_of_le (h.slt j hs) h.sz) fun e=>(h.sb j e).2 hs).trans (h.keep j hs)
 ·have hb:Below w.heap.size wr w':=A.bel (fun g e=>(h.sb g e).1) h.fr.size
  exact⟨hb.os.trans h.fr.os,hb.tape.trans h.fr.tape,hb.output.trans h.fr.output,Nat.le_trans h.fr.size hb.size,fun j hj hn=>(hb.block j hj).trans (h.fr.blk j hj hn),h.fr.sub⟩
 ·rw[List.map_append,List.map_singleton]
  exact A.row
 ·rcases hv' j hj with e |e
  ·exact h.sb j e
  ·subst e
   exact⟨h.fr.size,fun hs=>by have:=h.slt _ hs;have:=h.sz;omega⟩
set_option maxHeartbeats 1000000 in
theorem rec_ky {Wl:Nat->Prop} {w1:World} (h:Lg.Lo Wl w1 l fs) (hw:w.heap.size<=w1.heap.size) (hl:∀ j,Wl j->j<w.heap.size) (hb:Below w.heap.size w w1) {W:Nat->Prop} {fb:Nat} {s:Fs} (ho:Fo W w1 fb s.K s.G s.n) (hW:∀ j,W j->w.heap.size<=j):Calls Tryz.prog 17 #[.pointer (some ⟨l,0,none⟩)] w1 fun e w2=>∃ a c a' c' S Wl',e=.returned (.tuple #[.slice a fs.length c,.slice a' fs.length c'])/\RwS S w2 fs a a'/\KyS Wl Wl' S w w2 w2 fb s (.slice none 0 0) []/\Lg.Lo Wl' w2 l fs/\(∀ j,Wl' j->S j):=by
 refine(rec_of h hw hl hb ho hW).mono ?_
 rintro e w2 ⟨a,c,a',c',S,Wl',he,h1,h2,h3,h4⟩
 obtain⟨Wf,k1,k2,k3⟩:=h2.ex
 exact⟨a,c,a',c',S,Wl',he,h1,⟨⟨Wf,k1,k2,k3,fun j e=>by cases e⟩,h2.keep,h2.slt,h2.fr,h2.sz,Gm.Row.nil _ _ _,fun j e=>by cases e⟩,h3,h4⟩
theorem KyS.look (h:KyS Wl Wl' S w wR wr fb s v C) (t:Int) (ht:wfT t):∃ bw,(∀ wx,Below wr.heap.size wr wx->wx.cell? ⟨fb,1,none⟩=some (.map (some bw)))/\∃ m:Option Nat,(∀ wx,Below wr.heap.size wr wx->(Instr.lookup 139 (.map (some bw)) (.int .i64 t) false).run Tryz.prog wx=.ok (.map m) wx) /\
  match m with
  | none=>ksG s.G t=[]
  | some b=>∃ ks,ksG s.G t=ks/\∀ wx,Below wr.heap.size wr wx->Mp wx 9 b ks.length (fK ks):=by
 obtain⟨W,h1,_⟩:=h.ex
 have hlt:=h1.lt
 obtain⟨v0,bw,L,hI,e⟩:=h1.ex
 refine⟨bw,fun wx hb=>(hI.keep (fun j hj=>hb.block j (hlt j hj))).is.c 1,(lkD L t).map (·.b),fun wx hb=>?_,?_⟩
 ·have:=(hI.keep (w':=wx) (fun j hj=>hb.block j (hlt j hj))).wa.look1 KI uW (zWv _) (keyI ht)
  rw[fW_at] at this
  rw[this]
  cases lkD L t <;> rfl
 ·rw[← e]
  have e2:ksG (L.map (·.g)) t=((lkD L t).map (·.g.ks)).getD []:=by
   unfold ksG
   rw[lkG_map]
   cases lkD L t <;> rfl
  cases hd:lkD L t with
  | none=>rw[e2,hd];rfl
  | some d=>exact⟨_,by rw[e2,hd];rfl,fun wx hb=>(hI.keep (fun j hj=>hb.block j (hlt j hj))).ks d (lkD_mem hd).1⟩
end
end Go.Proofs.YtdchjncnjgelhaaGreat.Fd
