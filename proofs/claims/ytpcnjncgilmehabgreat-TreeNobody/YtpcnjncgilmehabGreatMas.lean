import Derived.Test.YtpcnjncgilmehabGreatMar
set_option linter.unusedVariables false
set_option linter.unusedSimpArgs false
set_option maxRecDepth 100000
namespace Go.Proofs.YtpcnjncgilmehabGreat
open Go.RowKit Go.Maps Go.ChangeMaps
structure Fat (C:Cf) (f:Fm) (st:Nat->Option Nat) (pins:Nat->Nat) (pg:Nat->Option Nat) (q:Nat):Prop where
 id:f.id=(q:Int)
 tx:f.tx=txO C q (st q)
 ln:f.ln=lnO (st q)
 pn:f.pn=(pins q:Int)
 si:f.si=0∨∃ k r,st q=some r/\1<=k/\k<=r/\f.si=lnO (some k)/\pg q=C.pv q k
structure Iv [Inhabited PrSet] (C:Cf) (n:Nat) (F:Nat->Fm) (st:Nat->Option Nat) (pn:Nat->Nat) (pg:Nat->Option Nat):Prop where
 us:∀ j,j<n->(F j).us=true->∃ id:Nat,id<C.ps/\Fat C (F j) st pn pg id
 un:∀ j,j<n->(F j).us=false->(F j).si=0/\(F j).pn=0
 ds:∀ (i j:Nat) (id:Int),i<n->j<n->(F i).has id->(F j).has id->i=j
 cl:∀ id:Nat,id<C.ps->(∀ j,j<n->(F j).has (id:Int)->(F j).si=0)->pg id=st id
 pl:∀ id:Nat,id<C.ps->∀ k,pg id=some k->∃ r,st id=some r/\k<=r
 sl:∀ id:Nat,id<C.ps->∀ r,st id=some r->1<=r/\r<=(cat C.fs).size/\C.lo id<=r
 np:∀ id:Nat,id<C.ps->pn id≠0->∃ j,j<n/\(F j).has (id:Int)
section
variable {k:Nat}
theorem lnO_pos {k:Nat} (h:1<=k):1<=lnO (some k):=by simp only[lnO];omega
end
section
variable [Inhabited PrSet]{k n:Nat}{G:Gp}{C C':Cf}{st pg:Nat->Option Nat}{pn:Nat->Nat}{ds:List Nat}{F:Nat->Fm}
theorem Iv.fat (h:Iv C n F st pn pg) {j id:Nat} (hj:j<n) (hh:(F j).has (id:Int)):id<C.ps/\Fat C (F j) st pn pg id:=by
 obtain⟨id',h1,h2⟩:=h.us j hj hh.1
 have e1:=h2.id
 have e2:=hh.2
 have:id'=id:=by omega
 subst this
 exact⟨h1,h2⟩
theorem Iv.pos (h:Iv C n F st pn pg) {j:Nat} (hj:j<n) (hd:0<(F j).si):∃ id k r,id<C.ps/\Fat C (F j) st pn pg id/\(F j).has (id:Int)/\st id=some r/\(1<=k/\k<=r)/\(F j).si=lnO (some k)/\pg id=C.pv id k:=by
 cases hu:(F j).us with
 | false=>have:=(h.un j hj hu).1;omega
 | true =>
  obtain⟨id,h1,h2⟩:=h.us j hj hu
  rcases h2.si with e |⟨k,r,e1,e0,e2,e3,e4⟩
  ·omega
  ·exact⟨id,k,r,h1,h2,⟨hu,h2.id⟩,e1,⟨e0,e2⟩,e3,e4⟩
theorem Iv.dj {G:Gp} (h:Iv C n G.F st pn pg) {j:Nat} (hj:j<n) (hd:dty G j=true):Dj C G st j:=by
 obtain⟨id,k,r,h1,h2,h3,h4,h5,h6,h7⟩:=h.pos hj (by simpa[dty] using hd)
 refine⟨id,r,h1,h2.id,h4,h.sl id h1 r h4,?_,?_⟩
 ·rw[h2.tx,h4];rfl
 ·rw[h2.ln,h4]
theorem Iv.ext (he:C.Ext C') (h:Iv C n F st pn pg):Iv C' n F st pn pg:=by
 have hps:=he.ps
 have hcat:=he.cat
 refine⟨fun j hj hu=>?_,h.un,h.ds,fun id h1=>h.cl id (by omega),fun id h1=>h.pl id (by omega),fun id h1 r h2=>?_,fun id h1=>h.np id (by omega)⟩
 ·obtain⟨id,h1,h2⟩:=h.us j hj hu
  have ht:txO C' id (st id)=txO C id (st id):=by
   cases hs:st id with
   | none=>rfl
   | some r=>exact he.T id r h1 (h.sl id h1 r hs).2.1
  refine⟨id,by omega,h2.id,by rw[ht];exact h2.tx,h2.ln,h2.pn,?_⟩
  rcases h2.si with e |⟨k,r,e1,e0,e2,e3,e4⟩
  ·exact Or.inl e
  ·exact Or.inr ⟨k,r,e1,e0,e2,e3,by rw[he.pv id k h1 (Nat.le_trans e2 (h.sl id h1 r e1).2.1)];exact e4⟩
 ·have:=h.sl id (by omega) r h2
  rw[he.lo id (by omega)]
  omega
end
section
variable [Inhabited PrSet]{B k k' db sure sure1 i n:Nat}{w w':World}{S S':Dk}{X:Ad}{G:Gp}{C C':Cf}{st pg:Nat->Option Nat}{pn:Nat->Nat}{ds js:List Nat}{F:Nat->Fm}
theorem Iv.saved {G:Gp} (h:Iv C n G.F st pn pg) (ds:List Nat) (hds:∀ j∈ds,j<n/\dty G j=true):Iv C n (cln G ds).F st pn (pgw G st pg ds):=by
 have hF:∀ j,(cln G ds).F j=if j∈ds then(G.F j).cl else G.F j:=fun j=>rfl
 have hh:∀ j id,((cln G ds).F j).has id↔(G.F j).has id:=fun j id=>by rw[hF];split <;> exact Iff.rfl
 refine⟨fun j hj hu=>?_,fun j hj hu=>?_,fun i j id hi hj h1 h2=>h.ds i j id hi hj ((hh _ _).1 h1) ((hh _ _).1 h2),fun id h1 h2=>?_,fun id h1 k h2=>?_,h.sl,fun id h1 h2=>?_⟩
 ·rw[hF] at hu ⊢
  by_cases hm:j∈ds
  ·rw[if_pos hm] at hu ⊢
   obtain⟨id,h1,h2⟩:=h.us j hj hu
   exact⟨id,h1,h2.id,h2.tx,h2.ln,h2.pn,Or.inl rfl⟩
  ·rw[if_neg hm] at hu ⊢
   obtain⟨id,h1,h2⟩:=h.us j hj hu
   refine⟨id,h1,h2.id,h2.tx,h2.ln,h2.pn,?_⟩
   have hpg:pgw G st pg ds id=pg id:=by
    unfold pgw
    rw[if_neg]
    intro hany
    obtain⟨j',hj',he⟩:=List.any_eq_true.1 hany
    have he':(G.F j').id=(id:Int):=by simpa using he
    obtain⟨hlt,hdt⟩:=hds j' hj'
    have hus:(G.F j').us=true:=by
     cases hu':(G.F j').us with
     | true=>rfl
     | false=>have:=(h.un j' hlt hu').1;simp[dty,this] at hdt
    have:=h.ds j' j (id:Int) hlt hj ⟨hus,he'⟩ ⟨hu,h2.id⟩
    subst this
    exact hm hj'
   rw[hpg]
   exact h2.si
 ·rw[hF] at hu ⊢
  by_cases hm:j∈ds
  ·rw[if_pos hm] at hu ⊢
   exact⟨rfl,(h.un j hj hu).2⟩
  ·rw[if_neg hm] at hu ⊢
   exact h.un j hj hu
 ·unfold pgw
  by_cases ha:(ds.any fun j=>(G.F j).id==(id:Int))=true
  ·rw[if_pos ha]
  ·rw[if_neg ha]
   refine h.cl id h1 (fun j hj hhas=>?_)
   have:=h2 j hj ((hh _ _).2 hhas)
   rw[hF] at this
   by_cases hm:j∈ds
   ·exfalso
    apply ha
    rw[List.any_eq_true]
    exact⟨j,hm,by rw[hhas.2];simp⟩
   ·rw[if_neg hm] at this;exact this
 ·unfold pgw at h2
  split at h2
  ·exact⟨k,h2,Nat.le_refl _⟩
  ·exact h.pl id h1 k h2
 ·obtain⟨j,hj,hhas⟩:=h.np id h1 h2
  exact⟨j,hj,(hh _ _).2 hhas⟩
theorem Iv.taken (h:Iv C n F st pn pg) {a id:Nat} (ha:a<n) (hid:id<C.ps) (hno:∀ j,j<n->¬ (F j).has (id:Int)) (hp:(F a).pn=0) (hs:(F a).si=0):Iv C n (upd F a ⟨(id:Int),txO C id (pg id),lnO (pg id),true,0,0⟩) st pn pg:=by
 have hpg:pg id=st id:=h.cl id hid (fun j hj hh=>absurd hh (hno j hj))
 have hpn:pn id=0:=by
  cases e:pn id with
  | zero=>rfl
  | succ x=>obtain⟨j,hj,hh⟩:=h.np id hid (by omega);exact absurd hh (hno j hj)
 have hsame:∀ j,j≠a->upd F a (⟨(id:Int),txO C id (pg id),lnO (pg id),true,0,0⟩:Fm) j=F j:=fun j hj=>upd_other _ _ hj
 have hat:upd F a (⟨(id:Int),txO C id (pg id),lnO (pg id),true,0,0⟩:Fm) a=⟨(id:Int),txO C id (pg id),lnO (pg id),true,0,0⟩:=upd_same _ _ _
 refine⟨fun j hj hu=>?_,fun j hj hu=>?_,fun i j id' hi hj h1 h2=>?_,fun id' h1 h2=>?_,h.pl,h.sl,fun id' h1 h2=>?_⟩
 ·by_cases e:j=a
  ·subst e
   rw[hat]
   exact⟨id,hid,rfl,by rw[hpg],by rw[hpg],by rw[hpn];rfl,Or.inl rfl⟩
  ·rw[hsame j e] at hu ⊢
   exact h.us j hj hu
 ·by_cases e:j=a
  ·subst e;rw[hat] at hu;cases hu
  ·rw[hsame j e] at hu ⊢;exact h.un j hj hu
 ·by_cases e1:i=a
  ·by_cases e2:j=a
   ·omega
   ·subst e1
    rw[hat] at h1
    rw[hsame j e2] at h2
    have:(id:Int)=id':=h1.2
    subst this
    exact absurd h2 (hno j hj)
  ·by_cases e2:j=a
   ·subst e2
    rw[hat] at h2
    rw[hsame i e1] at h1
    have:(id:Int)=id':=h2.2
    subst this
    exact absurd h1 (hno i hi)
   ·rw[hsame i e1] at h1
    rw[hsame j e2] at h2
    exact h.ds i j id' hi hj h1 h2
 ·refine h.cl id' h1 (fun j hj hh=>?_)
  by_cases e:j=a
  ·subst e;exact hs
  ·have:=h2 j hj (by rw[hsame j e];exact hh)
   rw[hsame j e] at this
   exact this
 ·obtain⟨j,hj,hh⟩:=h.np id' h1 h2
  by_cases e:j=a
  ·subst e
   have:=(h.fat hj hh).2.pn
   omega
  ·exact⟨j,hj,by rw[hsame j e];exact hh⟩
theorem Iv.setp (h:Iv C n F st pn pg) {j id r:Nat} (hj:j<n) (hh:(F j).has (id:Int)) (hr:1<=r/\r<=(cat C.fs).size/\C.lo id<=r) (hpv:C.pv id r=st id) (hst:∀ r0,st id=some r0->r0<=r):Iv C n (upd F j {F j with tx:=C.T id r,ln:=lnO (some r),si:=if 0<(F j).si then(F j).si else lnO (some r)}) (upd st id (some r)) pn pg:=by
 obtain⟨hid,hf⟩:=h.fat hj hh
 have hsame:∀ i,i≠j->upd F j ({F j with tx:=C.T id r,ln:=lnO (some r),si:=if 0<(F j).si then(F j).si else lnO (some r)}:Fm) i=F i:=fun i hi=>upd_other _ _ hi
 have hat:upd F j ({F j with tx:=C.T id r,ln:=lnO (some r),si:=if 0<(F j).si then(F j).si else lnO (some r)}:Fm) j={F j with tx:=C.T id r,ln:=lnO (some r),si:=if 0<(F j).si then(F j).si else lnO (some r)}:=upd_same _ _ _
 have hpos:0<(if 0<(F j).si then(F j).si else lnO (some r)):=by
  have:=lnO_pos hr.1
  split <;> omega
 have hoth:∀ i,i<n->i≠j->¬ (F i).has (id:Int):=fun i hi e h2=>e (h.ds i j _ hi hj h2 hh)
 refine⟨fun i hi hu=>?_,fun i hi hu=>?_,fun i i' id' hi hi' h1 h2=>?_,fun id' h1 h2=>?_,fun id' h1 k h2=>?_,fun id' h1 r' h2=>?_,fun id' h1 h2=>?_⟩
 ·by_cases e:i=j
  ·subst e
   rw[hat]
   refine⟨id,hid,hf.id,by rw[upd_same];rfl,by rw[upd_same],hf.pn,Or.inr ?_⟩
   rw[upd_same]
   by_cases hs:0<(F i).si
   ·rcases hf.si with e0 |⟨k,r0,e1,e0,e2,e3,e4⟩
    ·omega
    ·refine⟨k,r,rfl,e0,Nat.le_trans e2 (hst r0 e1),?_,e4⟩
     show(if 0<(F i).si then(F i).si else lnO (some r))=_
     rw[if_pos hs];exact e3
   ·refine⟨r,r,rfl,hr.1,Nat.le_refl _,?_,?_⟩
    ·show(if 0<(F i).si then(F i).si else lnO (some r))=_
     rw[if_neg hs]
    ·rw[hpv]
     refine h.cl id hid (fun i' hi' hh'=>?_)
     obtain rfl:i'=i:=h.ds i' i _ hi' hj hh' hh
     rcases hf.si with e0 |⟨k,r0,e1,e0,e2,e3,e4⟩
     ·exact e0
     ·have:=lnO_pos e0;omega
  ·rw[hsame i e] at hu ⊢
   obtain⟨id',h1,h2⟩:=h.us i hi hu
   have hne:id'≠id:=fun e2=>by subst e2;exact hoth i hi e ⟨hu,h2.id⟩
   exact⟨id',h1,h2.id,by rw[upd_other _ _ hne];exact h2.tx,by rw[upd_other _ _ hne];exact h2.ln,h2.pn,by rw[upd_other _ _ hne];exact h2.si⟩
 ·by_cases e:i=j
  ·subst e;rw[hat] at hu;rw[hh.1] at hu;cases hu
  ·rw[hsame i e] at hu ⊢;exact h.un i hi hu
 ·have c1:(F i).has id':=by
   by_cases e:i=j
   ·subst e;rw[hat] at h1;exact h1
   ·rw[hsame i e] at h1;exact h1
  have c2:(F i').has id':=by
   by_cases e:i'=j
   ·subst e;rw[hat] at h2;exact h2
   ·rw[hsame i' e] at h2;exact h2
  exact h.ds i i' id' hi hi' c1 c2
 ·by_cases e:id'=id
  ·subst e
   have:=h2 j hj (by rw[hat];exact hh)
   rw[hat] at this
   dsimp only at this
   omega
  ·rw[upd_other _ _ e]
   refine h.cl id' h1 (fun i hi hh'=>?_)
   have hij:i≠j:=fun e2=>by subst e2;have a1:=hh'.2;have a2:=hh.2;omega
   have:=h2 i hi (by rw[hsame i hij];exact hh')
   rw[hsame i hij] at this
   exact this
 ·obtain⟨r0,e1,e2⟩:=h.pl id' h1 k h2
  by_cases e:id'=id
  ·subst e
   exact⟨r,upd_same _ _ _,Nat.le_trans e2 (hst r0 e1)⟩
  ·exact⟨r0,by rw[upd_other _ _ e];exact e1,e2⟩
 ·by_cases e:id'=id
  ·subst e;rw[upd_same] at h2;cases h2;exact hr
  ·rw[upd_other _ _ e] at h2;exact h.sl id' h1 r' h2
 ·obtain⟨i,hi,hh'⟩:=h.np id' h1 h2
  refine⟨i,hi,?_⟩
  by_cases e:i=j
  ·subst e;rw[hat];exact hh'
  ·rw[hsame i e];exact hh'
theorem Iv.pin (h:Iv C n F st pn pg) {j id:Nat} (hj:j<n) (hh:(F j).has (id:Int)) (x:Nat):Iv C n (upd F j {F j with pn:=(x:Int)}) st (upd pn id x) pg:=by
 obtain⟨hid,hf⟩:=h.fat hj hh
 have hsame:∀ i,i≠j->upd F j ({F j with pn:=(x:Int)}:Fm) i=F i:=fun i hi=>upd_other _ _ hi
 have hat:upd F j ({F j with pn:=(x:Int)}:Fm) j={F j with pn:=(x:Int)}:=upd_same _ _ _
 have hoth:∀ i,i<n->i≠j->¬ (F i).has (id:Int):=fun i hi e h2=>e (h.ds i j _ hi hj h2 hh)
 have hhas:∀ i id',(upd F j ({F j with pn:=(x:Int)}:Fm) i).has id'↔(F i).has id':=fun i id'=>by
  by_cases e:i=j
  ·subst e;rw[hat];exact Iff.rfl
  ·rw[hsame i e]
 refine⟨fun i hi hu=>?_,fun i hi hu=>?_,fun i i' id' hi hi' h1 h2=>h.ds i i' id' hi hi' ((hhas _ _).1 h1) ((hhas _ _).1 h2),fun id' h1 h2=>?_,h.pl,h.sl,fun id' h1 h2=>?_⟩
 ·by_cases e:i=j
  ·subst e
   rw[hat]
   exact⟨id,hid,hf.id,hf.tx,hf.ln,by rw[upd_same],hf.si⟩
  ·rw[hsame i e] at hu ⊢
   obtain⟨id',h1,h2⟩:=h.us i hi hu
   have hne:id'≠id:=fun e2=>by subst e2;exact hoth i hi e ⟨hu,h2.id⟩
   exact⟨id',h1,h2.id,h2.tx,h2.ln,by rw[upd_other _ _ hne];exact h2.pn,h2.si⟩
 ·by_cases e:i=j
  ·subst e;rw[hat] at hu;rw[hh.1] at hu;cases hu
  ·rw[hsame i e] at hu ⊢;exact h.un i hi hu
 ·refine h.cl id' h1 (fun i hi hh'=>?_)
  have:=h2 i hi ((hhas _ _).2 hh')
  by_cases e:i=j
  ·subst e;rw[hat] at this;exact this
  ·rw[hsame i e] at this;exact this
 ·by_cases e:id'=id
  ·subst e;exact⟨j,hj,(hhas _ _).2 hh⟩
  ·rw[upd_other _ _ e] at h2
   obtain⟨i,hi,hh'⟩:=h.np id' h1 h2
   exact⟨i,hi,(hhas _ _).2 hh'⟩
theorem Iv.new (C:Cf) (n:Nat) (pg:Nat->Option Nat) (hs:∀ id:Nat,id<C.ps->∀ r,pg id=some r->1<=r/\r<=(cat C.fs).size/\C.lo id<=r):Iv C n (fun _=>zF) pg (fun _=>0) pg :=
 ⟨(fun j hj hu=>by cases hu),fun j hj hu=>⟨rfl,rfl⟩,(fun i j id hi hj h1 h2=>by cases h1.1),fun id h1 h2=>rfl,(fun id h1 k h2=>⟨k,h2,Nat.le_refl _⟩),hs,fun id h1 h2=>absurd rfl h2⟩
structure Pv (B:Nat) (w:World) (X:Ad) (k:Nat) (S:Dk) (C:Cf) (sure:Nat) (G:Gp) (st:Nat->Option Nat) (pn:Nat->Nat) (pg:Nat->Option Nat):Prop where
 q:Pq B w X k S C sure G
 p:Sp S C sure pg
 v:Iv C X.n G.F st pn pg
theorem Pv.below (h:Pv B w X k S C sure G st pn pg) (hb:Below w.heap.size w w'):Pv B w' X k S C sure G st pn pg:=⟨h.q.below hb,h.p,h.v⟩
theorem Pv.mono (h:Pv B w X k S C sure G st pn pg) (hk:k<=k'):Pv B w X k' S C sure G st pn pg:=⟨h.q.mono hk,h.p,h.v⟩
theorem Pv.saved {sv:Int} (h:Pv B w X k S C sure G st pn pg) (hjs:∀ j∈js,j<X.n) (hs:SvO B w w' X k' S C sure G st pg js ds S' sure1 sv):Pv B w' X k' S' C sure1 {cln G ds with sv:=sv} st pn (pgw G st pg ds):=⟨hs.q,hs.p,h.v.saved ds (fun j hj=>by have h1:=List.mem_filter.1 (hs.perm.subset hj);exact⟨hjs j h1.1,h1.2⟩)⟩
theorem Pv.rdP (h:Pv B w X k S C sure G st pn pg) {id:Nat} (hid:id<C.ps):Go.Proofs.YtpcnjncgilmehabGreat.rdP C S (id:Int)=(txO C id (pg id),lnO (pg id),0):=by
 unfold Go.Proofs.YtpcnjncgilmehabGreat.rdP
 rw[rd_in C S hid]
 cases hp:pg id with
 | none =>
  obtain⟨t,l,e,e1,e2⟩:=h.p.rd0 id hid hp
  rw[e1,if_pos e2]
  rfl
 | some r =>
  rw[h.p.rd1 id r hid hp,if_neg (by simp)]
  rfl
theorem Pv.rdOutP (h:Pv B w X k S C sure G st pn pg) {id:Int} (hid:¬ (0<=id/\id<C.ps)):Go.Proofs.YtpcnjncgilmehabGreat.rdP C S id=(⟨#[]⟩,0,6):=by
 unfold Go.Proofs.YtpcnjncgilmehabGreat.rdP
 rw[rd_out C S hid]
 simp
theorem Pv.ext (he:C.Ext C') (hl:Lv B w' X.l k S X.db C'.lb C'.sc C'.run C'.fs sure) (hk:Kp isA B w w') (ht:∀ id l,(C'.T id l).size=224) (h:Pv B w X k S C sure G st pn pg):Pv B w' X k S C' sure G st pn pg :=
 ⟨⟨hl,by rw[he.bs,he.ps,he.gn];exact h.q.st.kept hk.q,h.q.po.kept hk,by rw[he.n];exact h.q.n,he.ok h.q.ok ht⟩,h.p.ext he h.q.sl,h.v.ext he⟩
end
structure Tk [Inhabited PrSet] (B:Nat) (w w':World) (X:Ad) (k:Nat) (S:Dk) (C:Cf) (G:Gp) (st:Nat->Option Nat) (pn:Nat->Nat) (id:Int) (j:Nat) (S':Dk) (sure':Nat) (G':Gp) (pg':Nat->Option Nat):Prop where
 v:Pv B w' X k S' C sure' G' st pn pg'
 hj:j<X.n
 has:(G'.F j).has id
 cm:S.set=false->S'.set=false
 kp:Kp isQ B w w'
 keep:∀ i,i<X.n->(G.F i).pn≠0->G'.F i=G.F i
 new:(∀ i,i<X.n->¬ (G.F i).has id)->(G'.F j).si=0
 hit:(∃ i,i<X.n/\(G.F i).has id)->G'=G
section
theorem tor {y:Int} {P Q:Prop} (h0:y=0->P) (h9:y≠0->Q):(y=0/\P)∨(y≠0/\Q):=by
 by_cases h:y=0
 ·exact Or.inl ⟨h,h0 h⟩
 ·exact Or.inr ⟨h,h9 h⟩
end
section
theorem one_fm (f:Fm):∀ v∈f.A.toList,v.oneCell'=true:=by
 intro v hv
 simp[Fm.A] at hv
 rcases hv with rfl |rfl |rfl |rfl |rfl |rfl <;> rfl
end
section
theorem info_fm:(Tryz.prog.info? 137).map (·.size)=some 6:=by kernel_rfl
end
section
variable {w:World}
theorem wpList_load_o {ops:Array Oper} {rest:List Oper} {o:Oper} {a:Act} {Q:Exit->Act->World->Prop} {b:Nat} {id l:Int} {t:ByteArray} (w:World) (hg:o.guard=none) (x:Operand) (hop:o.op=Op.load 135 x) (hx:a.eval x=.pointer (some ⟨b,0,none⟩)) (hs:w.heap[b]?=some (.cells (pgA id t l) 135))
  (h:wpList Tryz.prog ops Q rest (a.put o.dst (.agg (pgA id t l))) w):wpList Tryz.prog ops Q (o ::rest) a w :=
 wpList_load_row hg 135 x hop b hx 135 _ (0,0) _ hs Tryz.underlying135 rfl info_pg h
end
section
variable {w:World}
theorem wpList_build_fm {ops:Array Oper} {rest:List Oper} {o:Oper} {a:Act} {Q:Exit->Act->World->Prop} {i l:Int} {t:ByteArray} (w:World) (hg:o.guard=none) (x:Operand) (hop:o.op=Op.build 137 #[(0,x),(1,.const (.bool true))]) (hx:a.eval x=.agg (pgA i t l))
  (h:wpList Tryz.prog ops Q rest (a.put o.dst (.agg (⟨i,t,l,true,0,0⟩:Fm).A)) w):wpList Tryz.prog ops Q (o ::rest) a w:=by
 refine wpList_plain hg fun K' hK'=>?_
 unfold Oper.wp
 have hb:(Instr.build 137 #[(0,.agg (pgA i t l)),(1,.bool true)]).run Tryz.prog w=.ok (.agg (⟨i,t,l,true,0,0⟩:Fm).A) w:=by kernel_rfl
 have hc:a.eval (.const (.bool true))=.bool true:=rfl
 simp[execOp,hop,hx,hc,hb,Result.andThen]
 exact hK' _ _ h
end
section
variable [Inhabited PrSet]{B k sure:Nat}{w w':World}{S S':Dk}{X:Ad}{G:Gp}{C:Cf}{st pg:Nat->Option Nat}{pn:Nat->Nat}
theorem take_hit (h:PoIs B w X G) (id:Int) (j:Nat) (hj:j<X.n) (hh:(G.F j).has id) (hlt:∀ i,i<j->¬ (G.F i).has id):Calls Tryz.prog 77 #[.pointer (some ⟨X.pb,0,none⟩),.int .i64 id] w fun e w'=>e=.returned (.tuple #[.pointer (some ⟨X.fb j,0,none⟩),.int .i64 0])/\w'=w:=by
 have CM:Hid (Calls Tryz.prog 61 #[.pointer (some ⟨X.pb,0,none⟩)] w fun e w'=>e=.returned (.bool true)/\w'=w):=isMade_po h
 have CF:Hid (Calls Tryz.prog 122 #[.pointer (some ⟨X.pb,0,none⟩),.int .i64 id] w fun e w'=>e=.returned (.pointer (some ⟨X.fb j,0,none⟩))/\w'=w):=find_hit h id j hj hh hlt
 clear h hh hlt
 generalize X.fb j=fb at *
 go_enter Tryz.func77,Tryz.ntmps77
 go_wp2_with (first
  | (go_at_call 61;refine CM.out.mono ?_;rintro e w1 ⟨rfl,rfl⟩)
  | (go_at_call 122;refine CF.out.mono ?_;rintro e w1 ⟨rfl,rfl⟩))
 go_ret2
 exact⟨rfl,rfl⟩
theorem Pv.cr (h:Pv B w X k S C sure G st pn pg) (id:Int) (wx:World) (hx:Below w.heap.size w wx):Calls Tryz.prog 123 #[.pointer (some ⟨X.pb,0,none⟩),.int .i64 id] wx fun e w' =>
  e=.returned (.tuple #[.agg (pgA id (Go.Proofs.YtpcnjncgilmehabGreat.rdP C S id).1 (Go.Proofs.YtpcnjncgilmehabGreat.rdP C S id).2.1),.int .i64 (Go.Proofs.YtpcnjncgilmehabGreat.rdP C S id).2.2])/\Below wx.heap.size wx w' :=
 read_po (h.q.below hx).po (h.q.below hx).ds (h.q.below hx).st h.q.lv.up h.q.n h.q.ok id
set_option maxHeartbeats 1000000 in
theorem take_out (h:Pv B w X k S C sure G st pn pg) (id:Int) (hid:¬ (0<=id/\id<C.ps)):Calls Tryz.prog 77 #[.pointer (some ⟨X.pb,0,none⟩),.int .i64 id] w fun e w'=>e=.returned (.tuple #[.pointer none,.int .i64 6])/\Below w.heap.size w w':=by
 have hno:∀ i,i<X.n->¬ (G.F i).has id:=fun i hi hh=>by
  obtain⟨id',h1,h2⟩:=h.v.us i hi hh.1
  have e1:=h2.id
  have e2:=hh.2
  omega
 have CM:Hid (Calls Tryz.prog 61 #[.pointer (some ⟨X.pb,0,none⟩)] w fun e w'=>e=.returned (.bool true)/\w'=w):=isMade_po h.q.po
 have CF:Hid (Calls Tryz.prog 122 #[.pointer (some ⟨X.pb,0,none⟩),.int .i64 id] w fun e w'=>e=.returned (.pointer none)/\w'=w):=find_miss h.q.po id hno
 have CR:Hid (Calls Tryz.prog 123 #[.pointer (some ⟨X.pb,0,none⟩),.int .i64 id] w fun e w'=>e=.returned (.tuple #[.agg (pgA id ⟨#[]⟩ 0),.int .i64 6])/\Below w.heap.size w w'):=by
  have:=h.cr id w (Below.refl _ _)
  rw[h.rdOutP hid] at this
  exact this
 clear h hno hid
 go_enter Tryz.func77,Tryz.ntmps77
 go_wp2_with (first
  | (go_at_call 61;refine CM.out.mono ?_;rintro e w1 ⟨rfl,rfl⟩)
  | (go_at_call 122;refine CF.out.mono ?_;rintro e w1 ⟨rfl,rfl⟩)
  | (go_at_call 123;refine CR.out.mono ?_;rintro e w2 ⟨rfl,b2⟩)
  | (refine wpList_new_o _ rfl rfl (zero_pg _) ?_;intro w3 b3 N3)
  | (refine wpList_put_o (A':=pgA id ⟨#[]⟩ 0) _ rfl (.tmp 7) (.tmp 25) rfl rfl rfl N3.blk info_pg rfl (one_pg _ _ _) ?_;intro w4 P4))
 go_ret2
 have e3:=N3.eq
 have s2:=b2.size
 have s3:=N3.below.size
 exact⟨rfl,(thn b2 N3.below).trans (P4.off.below (fun k hk=>by omega) (by omega))⟩
set_option maxHeartbeats 1000000 in
theorem take_full (h:Pv B w X k S C sure G st pn pg) (id:Nat) (hid:id<C.ps) (hno:∀ i,i<X.n->¬ (G.F i).has (id:Int)) (hp:∀ i,i<X.n->(G.F i).pn≠0):Calls Tryz.prog 77 #[.pointer (some ⟨X.pb,0,none⟩),.int .i64 (id:Int)] w fun e w'=>e=.returned (.tuple #[.pointer none,.int .i64 7])/\Below w.heap.size w w':=by
 have CM:Hid (Calls Tryz.prog 61 #[.pointer (some ⟨X.pb,0,none⟩)] w fun e w'=>e=.returned (.bool true)/\w'=w):=isMade_po h.q.po
 have CF:Hid (Calls Tryz.prog 122 #[.pointer (some ⟨X.pb,0,none⟩),.int .i64 (id:Int)] w fun e w'=>e=.returned (.pointer none)/\w'=w):=find_miss h.q.po id hno
 obtain⟨tx,htx⟩:∃ tx,tx=txO C id (pg id):=⟨_,rfl⟩
 obtain⟨ln,hln⟩:∃ ln,ln=lnO (pg id):=⟨_,rfl⟩
 have CR:Hid (Calls Tryz.prog 123 #[.pointer (some ⟨X.pb,0,none⟩),.int .i64 (id:Int)] w fun e w'=>e=.returned (.tuple #[.agg (pgA (id:Int) tx ln),.int .i64 0])/\Below w.heap.size w w'):=by
  have:=h.cr id w (Below.refl _ _)
  rw[h.rdP hid,← htx,← hln] at this
  exact this
 have CP:Hid (∀ wx,Below w.heap.size w wx->Calls Tryz.prog 124 #[.pointer (some ⟨X.pb,0,none⟩)] wx fun e w'=>e=.returned (.int .i64 (-1))/\Below wx.heap.size wx w'):=fun wx hx=>pick_none (h.q.po.below hx) hp
 clear h hno hid hp htx hln
 generalize (id:Int)=idI at *
 go_enter Tryz.func77,Tryz.ntmps77
 go_wp2_with (first
  | (go_at_call 61;refine CM.out.mono ?_;rintro e w1 ⟨rfl,rfl⟩)
  | (go_at_call 122;refine CF.out.mono ?_;rintro e w1 ⟨rfl,rfl⟩)
  | (go_at_call 123;refine CR.out.mono ?_;rintro e w2 ⟨rfl,b2⟩)
  | (refine wpList_new_o _ rfl rfl (zero_pg _) ?_;intro w3 b3 N3)
  | (refine wpList_put_o (A':=pgA idI tx ln) _ rfl (.tmp 7) (.tmp 25) rfl rfl rfl N3.blk info_pg rfl (one_pg _ _ _) ?_;intro w4 P4;have B4:Hid (Below w1.heap.size w1 w4):=(thn b2 N3.below).trans (P4.off.below (fun k hk=>(by have e3:=N3.eq;have s2:=b2.size;omega)) (by have s2:=b2.size;have s3:=N3.below.size;omega)))
  | (go_at_call 124;refine(CP.out _ B4.out).mono ?_;rintro e w5 ⟨rfl,b5⟩))
 go_ret2
 exact⟨rfl,thn B4.out b5⟩
set_option maxHeartbeats 8000000 in
theorem take_new (h:Pv B w X k S C sure G st pn pg) (hk:k<=290000000000) (id:Nat) (hid:id<C.ps) (hno:∀ i,i<X.n->¬ (G.F i).has (id:Int)) (hp:∃ i,i<X.n/\(G.F i).pn=0):Calls Tryz.prog 77 #[.pointer (some ⟨X.pb,0,none⟩),.int .i64 (id:Int)] w fun e w'=>∃ p y,e=.returned (.tuple #[p,.int .i64 y])/\(y=0->∃ j S' sure' G' pg',p=.pointer (some ⟨X.fb j,0,none⟩)/\Tk B w w' X (k+8006) S C G st pn (id:Int) j S' sure' G' pg')/\(y≠0->p=.pointer none/\y=9/\Ls B w w' X (k+8006) S C):=by
 have CM:Hid (Calls Tryz.prog 61 #[.pointer (some ⟨X.pb,0,none⟩)] w fun e w'=>e=.returned (.bool true)/\w'=w):=isMade_po h.q.po
 have CF:Hid (Calls Tryz.prog 122 #[.pointer (some ⟨X.pb,0,none⟩),.int .i64 (id:Int)] w fun e w'=>e=.returned (.pointer none)/\w'=w):=find_miss h.q.po id hno
 obtain⟨tx,htx⟩:∃ tx,tx=txO C id (pg id):=⟨_,rfl⟩
 obtain⟨ln,hln⟩:∃ ln,ln=lnO (pg id):=⟨_,rfl⟩
 have CR:Hid (Calls Tryz.prog 123 #[.pointer (some ⟨X.pb,0,none⟩),.int .i64 (id:Int)] w fun e w'=>e=.returned (.tuple #[.agg (pgA (id:Int) tx ln),.int .i64 0])/\Below w.heap.size w w'):=by
  have:=h.cr id w (Below.refl _ _)
  rw[h.rdP hid,← htx,← hln] at this
  exact this
 have CP:Hid (∀ wx,Below w.heap.size w wx->Calls Tryz.prog 124 #[.pointer (some ⟨X.pb,0,none⟩)] wx fun e w'=>∃ a:Nat,e=.returned (.int .i64 (a:Int))/\a<X.n/\(G.F a).pn=0/\Below wx.heap.size wx w'):=fun wx hx=>pick_some (h.q.po.below hx) hp
 have HC:Hid (∀ wx a,Below w.heap.size w wx->a<X.n->wx.cell? ⟨X.pb,2,none⟩=some (.slice (some ⟨X.ra,0,none⟩) X.n X.cp)/\wx.cell? ⟨X.ra,a,none⟩=some (.pointer (some ⟨X.fb a,0,none⟩))):=fun wx a hx ha=>⟨(h.q.po.below hx).c2,(h.q.po.below hx).ra ha⟩
 have CS:Hid (∀ wx a,Below w.heap.size w wx->a<X.n->Calls Tryz.prog 125 #[.pointer (some ⟨X.pb,0,none⟩),.slice (some ⟨wx.heap.size,0,none⟩) 1 1] (wx.alloc (.cells #[.pointer (some ⟨X.fb a,0,none⟩)] 133)) fun e w'=>∃ y,e=.returned (.int .i64 y)/\(y=0->∃ ds S' sure' sv,SvO B (wx.alloc (.cells #[.pointer (some ⟨X.fb a,0,none⟩)] 133)) w' X (k+8006) S C sure G st pg [a] ds S' sure' sv)/\(y≠0->y=9/\Ls B (wx.alloc (.cells #[.pointer (some ⟨X.fb a,0,none⟩)] 133)) w' X (k+8006) S C)/\Kp isQ B (wx.alloc (.cells #[.pointer (some ⟨X.fb a,0,none⟩)] 133)) w'):=fun wx a hx ha=>by
  have hb:Below w.heap.size w (wx.alloc (.cells #[.pointer (some ⟨X.fb a,0,none⟩)] 133)):=hx.alloc hx.size _
  have:=save_po (js:=[a]) (st:=st) (h.q.below hb) h.p (by simp;omega) (Ps.one wx ha) (by simp) 1 (fun j hj hd=>by rw[List.mem_singleton] at hj;subst hj;exact h.v.dj ha hd)
  refine this.mono ?_
  rintro e w' ⟨y,he,h0,h9⟩
  refine⟨y,he,h0,h9,?_⟩
  by_cases hy:y=0
  ·obtain⟨ds,S1,s1,sv,q⟩:=h0 hy
   exact q.kp
  ·exact(h9 hy).2.kp
 have hle:=h.q.le
 have hn2:=h.q.po.n2
 have HE:Hid (∀ wx w3 a ds S' sure' sv,Below w.heap.size w wx->a<X.n->(G.F a).pn=0->SvO B wx w3 X (k+8006) S C sure G st pg [a] ds S' sure' sv->Pv B w3 X (k+8006) S' C sure' {cln G ds with sv:=sv} st pn (pgw G st pg ds)/\((cln G ds).F a).si=0/\((cln G ds).F a).pn=0/\(∀ i,i<X.n->¬ ((cln G ds).F i).has (id:Int))/\tx=txO C id (pgw G st pg ds id)/\ln=lnO (pgw G st pg ds id)/\(∀ i,i≠a->(cln G ds).F i=G.F i)/\(S.set=false->S'.set=false)):=fun wx w3 a ds S' sure' sv hx ha hpa hs=>by
  have hF:∀ j,(cln G ds).F j=if j∈ds then(G.F j).cl else G.F j:=fun j=>rfl
  have hmem:∀ j,j∈ds↔j=a/\dty G a=true:=fun j=>by
   rw[hs.perm.mem_iff,List.mem_filter,List.mem_singleton]
   constructor
   ·rintro⟨rfl,h2⟩;exact⟨rfl,h2⟩
   ·rintro⟨rfl,h2⟩;exact⟨rfl,h2⟩
  have hpg:pgw G st pg ds id=pg id:=by
   unfold pgw
   rw[if_neg]
   intro hany
   obtain⟨j,hj,he⟩:=List.any_eq_true.1 hany
   obtain⟨rfl,hd⟩:=(hmem j).1 hj
   have he':(G.F j).id=(id:Int):=by simpa using he
   refine hno j ha ⟨?_,he'⟩
   cases hu:(G.F j).us with
   | true=>rfl
   | false =>
    have:=(h.v.un j ha hu).1
    simp[dty,this] at hd
  refine⟨(h.below hx).saved (fun j hj=>by rw[List.mem_singleton] at hj;subst hj;exact ha) hs,?_,?_,fun i hi hh=>?_,by rw[hpg];exact htx,by rw[hpg];exact hln,fun i hi=>?_,hs.cm⟩
  ·rw[hF]
   by_cases hd:dty G a=true
   ·rw[if_pos ((hmem a).2 ⟨rfl,hd⟩)];rfl
   ·rw[if_neg (fun hm=>hd ((hmem a).1 hm).2)]
    cases hu:(G.F a).us with
    | false=>exact(h.v.un a ha hu).1
    | true =>
     obtain⟨id',h1,h2⟩:=h.v.us a ha hu
     rcases h2.si with e |⟨k0,r0,_,e0,_,e3,_⟩
     ·exact e
     ·exfalso
      apply hd
      have:=lnO_pos e0
      simp only[dty,decide_eq_true_eq]
      omega
  ·rw[hF];split
   ·exact hpa
   ·exact hpa
  ·rw[hF] at hh
   split at hh
   ·exact hno i hi hh
   ·exact hno i hi hh
  ·rw[hF,if_neg (fun hm=>hi ((hmem i).1 hm).1)]
 have HNo:Hid (∀ i,i<X.n->¬ (G.F i).has (id:Int)):=hno
 have hidH:Hid (id<C.ps):=hid
 clear h hno hid hp htx hln hk
 go_enter Tryz.func77,Tryz.ntmps77
 go_wp2_with (first
  | (go_at_call 61;refine CM.out.mono ?_;rintro e w1 ⟨rfl,rfl⟩)
  | (go_at_call 122;refine CF.out.mono ?_;rintro e w1 ⟨rfl,rfl⟩)
  | (go_at_call 123;refine CR.out.mono ?_;rintro e w2 ⟨rfl,b2⟩)
  | (refine wpList_new_o _ rfl rfl (zero_pg _) ?_;intro w3 b3 N3)
  | (refine wpList_put_o (A':=pgA (id:Int) tx ln) _ rfl (.tmp 7) (.tmp 25) rfl rfl rfl N3.blk info_pg rfl (one_pg _ _ _) ?_;intro w4 P4;have B4:Hid (Below w1.heap.size w1 w4):=(thn b2 N3.below).trans (P4.off.below (fun k hk=>(by have e3:=N3.eq;have s2:=b2.size;omega)) (by have s2:=b2.size;have s3:=N3.below.size;omega));have p4:=P4.blk;clear P4 N3 b2)
  | (go_at_call 124;refine(CP.out _ B4.out).mono ?_;rintro e w5 ⟨a,rfl,ha,hpa,b5⟩;have B5:Hid (Below w1.heap.size w1 w5):=thn B4.out b5;have p5:Hid (w5.heap[b3]?=some (.cells (pgA (id:Int) tx ln) 135)):=(b5.block _ (lt_of_some p4)).trans p4;have c2:=(HC.out _ a B5.out ha).1;have ra:=(HC.out _ a B5.out ha).2;have ha1:(a:Int)<(X.n:Int):=(by omega);have ha2:¬ (a:Int)<0:=(by omega);have ha3:(a:Int)<=64:=(by omega);have HA:Hid (a<X.n):=ha;have HPA:Hid ((G.F a).pn=0):=hpa;clear ha hpa b5 B4 p4)
  | (go_at_call 125;refine(CS.out _ a B5.out HA.out).mono ?_;rintro e w6 ⟨y,rfl,h0,h9,K6⟩;rcases tor h0 h9 with⟨rfl,hP⟩ | ⟨hy,hQ⟩ <;> first
    | (obtain⟨ds,S6,sure6,sv6,O6⟩:=hP;have E6:=HE.out _ _ a ds S6 sure6 sv6 (B5.out.alloc (by exact B5.out.size) _) HA.out HPA.out O6;have p6:w6.heap[b3]?=some (.cells (pgA (id:Int) tx ln) 135):=O6.kp.block _ _ ((((Below.refl _ _).alloc (Nat.le_refl _) _).block b3 (lt_of_some p5.out)).trans p5.out) (by simp[isQ,isA,isD,isL,isF]);have K6':Hid (Kp isQ B w1 w6):=(Kp.of_below (B5.out.alloc (by exact B5.out.size) _) hle).trans O6.kp;obtain⟨V6,e1,e2,e3,e4,e5,e6,e7⟩:=E6;have fr6:=V6.q.po.fr a HA.out;have HV6:Hid (Pv B w6 X (k+8006) S6 C sure6 { cln G ds with sv:=sv6} st pn (pgw G st pg ds)):=V6;have E1:Hid (((cln G ds).F a).si=0):=e1;have E2:Hid (((cln G ds).F a).pn=0):=e2;have E3:Hid (∀ i,i<X.n->¬ ((cln G ds).F i).has (id:Int)):=e3;have E4:Hid (tx=txO C id (pgw G st pg ds id)):=e4;have E5:Hid (ln=lnO (pgw G st pg ds id)):=e5;have E6:Hid (∀ i,i≠a->(cln G ds).F i=G.F i):=e6;have E7:Hid (S.set=false->S6.set=false):=e7;clear V6 e1 e2 e3 e4 e5 e6 e7 O6 h0 h9 c2 ra)
    | (have hyb:(y != 0)=true:=(by simpa using hy);have HQ:Hid (y=9/\Ls B (w5.alloc (.cells #[.pointer (some ⟨X.fb a,0,none⟩)] 133)) w6 X (k+8006) S C):=hQ;clear h0 h9 hQ))
  | (refine wpList_load_o _ rfl (.tmp 7) rfl rfl p6 ?_)
  | (refine wpList_build_fm (i:=(id:Int)) (t:=tx) (l:=ln) _ rfl (.tmp 49) rfl rfl ?_)
  | (refine wpList_put_o (A':=(⟨(id:Int),tx,ln,true,0,0⟩:Fm).A) _ rfl (.tmp 51) (.tmp 50) rfl rfl rfl fr6 info_fm rfl (one_fm _) ?_;intro w7 P7;have U7:=HV6.out.q.po.putF HA.out (f:=⟨(id:Int),tx,ln,true,0,0⟩) P7.off P7.blk HV6.out.q.le;have Q7:Hid (Pq B w7 X (k+8006) S6 C sure6 (({ cln G ds with sv:=sv6}:Gp).set a ⟨(id:Int),tx,ln,true,0,0⟩)):=HV6.out.q.turn U7;have K7:Hid (Kp isQ B w6 w7):=U7.2.f;have c3:=Q7.out.po.c3;have z3:=Q7.out.po.z 3;have c5:=Q7.out.po.c5;have z5:=Q7.out.po.z 5;clear U7 P7 fr6 p6))
 ·have V6:=HV6.out
  have hh0:(0:Int)<=(a:Int)+1:=by omega
  have hh1:(a:Int)+1<=(X.n:Int):=by omega
  go_ret2
  have P8:=Q7.out.po.setP (G':={({cln G ds with sv:=sv6}:Gp).set a ⟨(id:Int),tx,ln,true,0,0⟩ with hd:=(a:Int)+1}) (i:=3) (u:=.int .i64 ((a:Int)+1)) rfl rfl hh0 hh1 Q7.out.le
  have Q8:=Q7.out.turn P8
  have P9:=fun x=>Q8.po.setP (G':={({({cln G ds with sv:=sv6}:Gp).set a ⟨(id:Int),tx,ln,true,0,0⟩ with hd:=(a:Int)+1}:Gp) with tk:=x}) (i:=5) (u:=.int .i64 x) rfl rfl hh0 hh1 Q8.le
  have e4:=E4.out
  have e5:=E5.out
  have hF:∀ i,upd (cln G ds).F a (⟨(id:Int),tx,ln,true,0,0⟩:Fm) i=if i=a then⟨(id:Int),tx,ln,true,0,0⟩ else(cln G ds).F i:=fun i=>rfl
  refine⟨_,0,rfl,fun _=>⟨a,rfl,S6,sure6,_,pgw G st pg ds,⟨Q8.turn (P9 _),V6.p,?_⟩,HA.out,?_,E7.out,((K6'.out.trans K7.out).trans P8.2.f).trans (P9 _).2.f,fun i hi hp=>?_,fun _=>?_,fun⟨i,hi,hh⟩=>absurd hh (HNo.out i hi)⟩,fun e=>absurd rfl e⟩
  ·have:=V6.v.taken HA.out hidH.out E3.out E2.out E1.out
   rw[← e4,← e5] at this
   exact this
  ·show(upd (cln G ds).F a (⟨(id:Int),tx,ln,true,0,0⟩:Fm) a).has _
   rw[upd_same]
   exact⟨rfl,rfl⟩
  ·have hia:i≠a:=fun e=>by subst e;exact hp HPA.out
   show upd (cln G ds).F a (⟨(id:Int),tx,ln,true,0,0⟩:Fm) i=_
   rw[upd_other _ _ hia]
   exact E6.out i hia
  ·show(upd (cln G ds).F a (⟨(id:Int),tx,ln,true,0,0⟩:Fm) a).si=0
   rw[upd_same]
 ·go_ret2
  refine⟨_,y,rfl,fun e=>absurd e hy,fun _=>⟨rfl,HQ.out.1,?_⟩⟩
  obtain⟨q1,q2,q3⟩:=HQ.out.2
  exact⟨q1,q2,(Kp.of_below (B5.out.alloc (by exact B5.out.size) _) hle).trans q3⟩
end
structure Er [Inhabited PrSet] (B:Nat) (w w':World) (X:Ad) (k:Nat) (S:Dk) (C:Cf) (G:Gp) (id:Int) (y:Int):Prop where
 or:(y=6/\¬ (0<=id/\id<C.ps)/\Below w.heap.size w w')∨(y=7/\(0<=id/\id<C.ps)/\(∀ i,i<X.n->¬ (G.F i).has id)/\(∀ i,i<X.n->(G.F i).pn≠0)/\Below w.heap.size w w')∨(y=9/\(0<=id/\id<C.ps)/\Ls B w w' X k S C)
section
theorem first_has (F:Nat->Fm) (id:Int) (n:Nat) (h:∃ j,j<n/\(F j).has id):∃ j,j<n/\(F j).has id/\∀ i,i<j->¬ (F i).has id:=by
 induction n with
 | zero=>obtain⟨j,hj,_⟩:=h;omega
 | succ n ih =>
  by_cases h2:∃ j,j<n/\(F j).has id
  ·obtain⟨j,h1,h3,h4⟩:=ih h2
   exact⟨j,by omega,h3,h4⟩
  ·obtain⟨j,hj,hh⟩:=h
   have:j=n:=by
    rcases Nat.lt_or_ge j n with h5 |h5
    ·exact absurd ⟨j,h5,hh⟩ h2
    ·omega
   subst this
   exact⟨j,by omega,hh,fun i hi hh2=>h2 ⟨i,hi,hh2⟩⟩
end
section
variable {G:Gp}
theorem set_set (j:Nat) (f f':Fm):(G.set j f).set j f'=G.set j f':=by
 unfold Gp.set
 congr 1
 funext i
 unfold upd
 split
 ·rfl
 ·rename_i h;dsimp only;rw[if_neg h]
end
section
variable [Inhabited PrSet]{B k sure sure1:Nat}{w w' wr:World}{S S':Dk}{X:Ad}{G:Gp}{C:Cf}{st pg:Nat->Option Nat}{pn:Nat->Nat}
theorem take_any (h:Pv B w X k S C sure G st pn pg) (hk:k<=290000000000) (id:Int):Calls Tryz.prog 77 #[.pointer (some ⟨X.pb,0,none⟩),.int .i64 id] w fun e w'=>∃ p y,e=.returned (.tuple #[p,.int .i64 y])/\(y=0->∃ j S' sure' G' pg',p=.pointer (some ⟨X.fb j,0,none⟩)/\Tk B w w' X (k+8006) S C G st pn id j S' sure' G' pg')/\(y≠0->p=.pointer none/\Er B w w' X (k+8006) S C G id y):=by
 by_cases hid:0<=id/\id<C.ps
 ·by_cases hex:∃ j,j<X.n/\(G.F j).has id
  ·obtain⟨j,hj,hh,hlt⟩:=first_has G.F id X.n hex
   refine(take_hit h.q.po id j hj hh hlt).mono ?_
   rintro e w' ⟨he,rfl⟩
   refine⟨_,0,he,fun _=>⟨j,S,sure,G,pg,rfl,h.mono (by omega),hj,hh,fun h=>h,Kp.refl _ _ _,fun _ _ _=>rfl,fun hno=>absurd hh (hno j hj),fun _=>rfl⟩,fun e=>absurd rfl e⟩
  ·obtain⟨d,rfl⟩:∃ d:Nat,id=(d:Int):=⟨id.toNat,by omega⟩
   have hno:∀ i,i<X.n->¬ (G.F i).has (d:Int):=fun i hi hh=>hex ⟨i,hi,hh⟩
   by_cases hp:∃ i,i<X.n/\(G.F i).pn=0
   ·refine(take_new h hk d (by omega) hno hp).mono ?_
    rintro e w' ⟨p,y,he,h0,h9⟩
    exact⟨p,y,he,h0,fun hy=>⟨(h9 hy).1,by rw[(h9 hy).2.1];exact⟨Or.inr (Or.inr ⟨rfl,hid,(h9 hy).2.2⟩)⟩⟩⟩
   ·have hp':∀ i,i<X.n->(G.F i).pn≠0:=fun i hi e=>hp ⟨i,hi,e⟩
    refine(take_full h d (by omega) hno hp').mono ?_
    rintro e w' ⟨he,hb⟩
    exact⟨_,7,he,fun e=>by omega,fun _=>⟨rfl,⟨Or.inr (Or.inl ⟨rfl,hid,hno,hp',hb⟩)⟩⟩⟩
 ·refine(take_out h id hid).mono ?_
  rintro e w' ⟨he,hb⟩
  exact⟨_,6,he,fun e=>by omega,fun _=>⟨rfl,⟨Or.inl ⟨rfl,hid,hb⟩⟩⟩⟩
structure GtO (B:Nat) (w w':World) (X:Ad) (k:Nat) (S:Dk) (C:Cf) (G:Gp) (st:Nat->Option Nat) (pn:Nat->Nat) (id:Int) (t:ByteArray) (l y:Int):Prop where
 ok:y=0->∃ (d j:Nat) (S':Dk) (sure':Nat) (G':Gp) (pg':Nat->Option Nat),id=(d:Int)/\d<C.ps/\t=txO C d (st d)/\l=lnO (st d)/\Tk B w w' X k S C G st pn id j S' sure' G' pg'
 bad:y≠0->t=⟨#[]⟩/\l=0/\Er B w w' X k S C G id y
theorem Tk.below {id:Int} {j:Nat} {S':Dk} {G':Gp} {pg':Nat->Option Nat} (h:Tk B w wr X k S C G st pn id j S' sure1 G' pg') (hb:Below wr.heap.size wr w') (hB:B<=w.heap.size):Tk B w w' X k S C G st pn id j S' sure1 G' pg' :=
 ⟨h.v.below hb,h.hj,h.has,h.cm,h.kp.below hb hB,h.keep,h.new,h.hit⟩
set_option maxHeartbeats 2000000 in
theorem Get_any (h:Pv B w X k S C sure G st pn pg) (hk:k<=290000000000) (id:Int):Calls Tryz.prog 100 #[.pointer (some ⟨X.pb,0,none⟩),.int .i64 id] w fun e w'=>∃ t l y,e=.returned (.tuple #[.string t,.int .i64 l,.int .i64 y])/\GtO B w w' X (k+8006) S C G st pn id t l y:=by
 have CT:Hid (Calls Tryz.prog 77 #[.pointer (some ⟨X.pb,0,none⟩),.int .i64 id] w fun e w'=>∃ p y,e=.returned (.tuple #[p,.int .i64 y])/\(y=0->∃ j S' sure' G' pg',p=.pointer (some ⟨X.fb j,0,none⟩)/\Tk B w w' X (k+8006) S C G st pn id j S' sure' G' pg')/\(y≠0->p=.pointer none/\Er B w w' X (k+8006) S C G id y)):=take_any h hk id
 have hle:=h.q.le
 clear h hk
 go_enter Tryz.func100,Tryz.ntmps100
 go_wp2_with (go_at_call 77;refine CT.out.mono ?_;rintro e w1 ⟨p,y,rfl,h0,h9⟩;rcases tor h0 h9 with⟨rfl,hP⟩ |⟨hy,hQ⟩ <;> first
  | (obtain⟨j,S1,sure1,G1,pg1,rfl,T1⟩:=hP;have f1:=T1.v.q.po.f1 T1.hj;have f2:=T1.v.q.po.f2 T1.hj;have HT:Hid (Tk B w w1 X (k+8006) S C G st pn id j S1 sure1 G1 pg1):=T1;clear T1 h0 h9)
  | (obtain⟨rfl,hE⟩:=hQ;have hyb:(y != 0)=true:=(by simpa using hy);have HE:Hid (Er B w w1 X (k+8006) S C G id y):=hE;clear h0 h9 hE))
 ·generalize ht:(G1.F j).tx=t at *
  generalize hl:(G1.F j).ln=l at *
  have HTx:Hid ((G1.F j).tx=t):=ht
  have HLn:Hid ((G1.F j).ln=l):=hl
  clear ht hl
  go_quiet (fail)
  go_wp2
  go_ret3
  obtain⟨d,h1,h2⟩:=HT.out.v.v.us j HT.out.hj HT.out.has.1
  refine⟨_,_,_,rfl,⟨fun _=>⟨d,j,S1,sure1,G1,pg1,?_,h1,?_,?_,HT.out.below (Sm.below_dr (Below.refl _ _) nq) hle⟩,fun e=>absurd rfl e⟩⟩
  ·rw[← HT.out.has.2];exact h2.id
  ·rw[← HTx.out];exact h2.tx
  ·rw[← HLn.out];exact h2.ln
 ·go_ret3
  exact⟨_,_,y,rfl,⟨fun e=>absurd e hy,fun _=>⟨rfl,rfl,HE.out⟩⟩⟩
def Fm.put (f:Fm) (t:ByteArray) (l:Int):Fm:={f with tx:=t,ln:=l,si:=if 0<f.si then f.si else l}
structure StO (B:Nat) (w w':World) (X:Ad) (k:Nat) (S:Dk) (C:Cf) (G:Gp) (st:Nat->Option Nat) (pn:Nat->Nat) (id:Int) (t:ByteArray) (l y:Int):Prop where
 ok:y=0->∃ (w1:World) (j:Nat) (S':Dk) (sure':Nat) (G':Gp) (pg':Nat->Option Nat),Tk B w w1 X k S C G st pn id j S' sure' G' pg'/\Pq B w' X k S' C sure' (G'.set j ((G'.F j).put t l))/\Kp isQ B w w'
 bad:y≠0->Er B w w' X k S C G id y
set_option maxHeartbeats 4000000 in
theorem Set_any (h:Pv B w X k S C sure G st pn pg) (hk:k<=290000000000) (id:Int) (t:ByteArray) (ht:t.size=224) (l:Int) (hl:1<=l):Calls Tryz.prog 43 #[.pointer (some ⟨X.pb,0,none⟩),.int .i64 id,.string t,.int .i64 l] w fun e w'=>∃ y,e=.returned (.int .i64 y)/\StO B w w' X (k+8006) S C G st pn id t l y:=by
 have CM:Hid (Calls Tryz.prog 61 #[.pointer (some ⟨X.pb,0,none⟩)] w fun e w'=>e=.returned (.bool true)/\w'=w):=isMade_po h.q.po
 have CT:Hid (Calls Tryz.prog 77 #[.pointer (some ⟨X.pb,0,none⟩),.int .i64 id] w fun e w'=>∃ p y,e=.returned (.tuple #[p,.int .i64 y])/\(y=0->∃ j S' sure' G' pg',p=.pointer (some ⟨X.fb j,0,none⟩)/\Tk B w w' X (k+8006) S C G st pn id j S' sure' G' pg')/\(y≠0->p=.pointer none/\Er B w w' X (k+8006) S C G id y)):=take_any h hk id
 have HS:Hid (∀ w1 j S1 sure1 G1 pg1,Tk B w w1 X (k+8006) S C G st pn id j S1 sure1 G1 pg1->Pq B ((w1.setCell ⟨X.fb j,1,none⟩ (.string t)).setCell ⟨X.fb j,2,none⟩ (.int .i64 l)) X (k+8006) S1 C sure1 (G1.set j {G1.F j with tx:=t,ln:=l})/\Kp isQ B w ((w1.setCell ⟨X.fb j,1,none⟩ (.string t)).setCell ⟨X.fb j,2,none⟩ (.int .i64 l))/\((w1.setCell ⟨X.fb j,1,none⟩ (.string t)).setCell ⟨X.fb j,2,none⟩ (.int .i64 l)).cell? ⟨X.fb j,4,none⟩=some (.int .i64 (G1.F j).si)):=fun w1 j S1 sure1 G1 pg1 T=>by
  have P1:=T.v.q.po.setF T.hj (f:={G1.F j with tx:=t}) (i:=1) (u:=.string t) rfl T.v.q.le
  have Q1:=T.v.q.turn P1
  have P2:=Q1.po.setF T.hj (f:={G1.F j with tx:=t,ln:=l}) (i:=2) (u:=.int .i64 l) (by
   show((upd G1.F j ({G1.F j with tx:=t}:Fm)) j).A.setIfInBounds 2 _=_
   rw[upd_same];rfl) Q1.le
  have Q2:=Q1.turn P2
  have e:(G1.set j {G1.F j with tx:=t}).set j {G1.F j with tx:=t,ln:=l}=G1.set j {G1.F j with tx:=t,ln:=l}:=by
   unfold Gp.set
   congr 1
   funext i
   unfold upd
   split
   ·rfl
   ·rename_i h;dsimp only;rw[if_neg h]
  rw[e] at Q2
  refine⟨Q2,(T.kp.trans P1.2.f).trans P2.2.f,?_⟩
  have:=Q2.po.f4 T.hj
  have e2:((G1.set j {G1.F j with tx:=t,ln:=l}).F j).si=(G1.F j).si:=by
   show(upd G1.F j _ j).si=_
   rw[upd_same]
  rw[e2] at this
  exact this
 have hle:=h.q.le
 have l1:¬ l<1:=by omega
 have htI:(t.size:Int)=224:=by omega
 clear h hk hl
 go_enter Tryz.func43,Tryz.ntmps43
 go_wp2_with (first
  | (go_at_call 61;refine CM.out.mono ?_;rintro e w0 ⟨rfl,rfl⟩)
  | (go_at_call 77;refine CT.out.mono ?_;rintro e w1 ⟨p,y,rfl,h0,h9⟩;rcases tor h0 h9 with⟨rfl,hP⟩ | ⟨hy,hQ⟩ <;> first
    | (obtain⟨j,S1,sure1,G1,pg1,rfl,T1⟩:=hP;have f1:=T1.v.q.po.f1 T1.hj;have f2:=T1.v.q.po.f2 T1.hj;have z1:=T1.v.q.po.fz T1.hj 1;have z2:=T1.v.q.po.fz T1.hj 2;have HT:Hid (Tk B w0 w1 X (k+8006) S C G st pn id j S1 sure1 G1 pg1):=T1;have U:=HS.out _ _ _ _ _ _ T1;have f4:=U.2.2;have HU:Hid (Pq B ((w1.setCell ⟨X.fb j,1,none⟩ (.string t)).setCell ⟨X.fb j,2,none⟩ (.int .i64 l)) X (k+8006) S1 C sure1 (G1.set j { G1.F j with tx:=t,ln:=l})/\Kp isQ B w0 ((w1.setCell ⟨X.fb j,1,none⟩ (.string t)).setCell ⟨X.fb j,2,none⟩ (.int .i64 l))):=⟨U.1,U.2.1⟩;clear U T1 h0 h9;generalize hsi:(G1.F j).si=si at f4;have HSi:Hid ((G1.F j).si=si):=hsi;clear hsi)
    | (obtain⟨rfl,hE⟩:=hQ;have hyb:(y != 0)=true:=(by simpa using hy);have HE:Hid (Er B w0 w1 X (k+8006) S C G id y):=hE;clear h0 h9 hE))
  | (go_at_call 78;refine(isDirty_at f4).mono ?_;rintro e w2 ⟨rfl,rfl⟩;have z4:=HU.out.1.po.fz HT.out.hj 4))
 ·have hs:¬ 0<si:=by simpa using ‹(!decide (0<si))=true›
  go_ret
  have P3:=HU.out.1.po.setF HT.out.hj (f:=(G1.F j).put t l) (i:=4) (u:=.int .i64 l) (by
   show((upd G1.F j ({G1.F j with tx:=t,ln:=l}:Fm)) j).A.setIfInBounds 4 _=_
   rw[upd_same]
   unfold Fm.put
   rw[HSi.out,if_neg hs];rfl) HU.out.1.le
  have Q3:=HU.out.1.turn P3
  rw[set_set] at Q3
  exact⟨0,rfl,fun _=>⟨w1,j,S1,sure1,G1,pg1,HT.out,Q3,HU.out.2.trans P3.2.f⟩,fun e=>absurd rfl e⟩
 ·have hs:0<si:=by simpa using ‹(!decide (0<si))=false›
  go_ret
  have e:(G1.F j).put t l={G1.F j with tx:=t,ln:=l}:=by
   unfold Fm.put
   rw[if_pos (by rw[HSi.out];exact hs)]
  refine⟨0,rfl,fun _=>⟨w1,j,S1,sure1,G1,pg1,HT.out,?_,HU.out.2⟩,fun e=>absurd rfl e⟩
  rw[e]
  exact HU.out.1
 ·go_ret
  exact⟨y,rfl,fun e=>absurd e hy,fun _=>HE.out⟩
theorem Pages_po (h:PoIs B w X G) (hs:StIs w X.sb X.db C.bs C.ps C.gn):Calls Tryz.prog 30 #[.pointer (some ⟨X.pb,0,none⟩)] w fun e w'=>e=.returned (.int .i64 (C.ps:Int))/\w'=w:=by
 have CM:Hid (Calls Tryz.prog 61 #[.pointer (some ⟨X.pb,0,none⟩)] w fun e w'=>e=.returned (.bool true)/\w'=w):=isMade_po h
 have CP:Hid (Calls Tryz.prog 62 #[.pointer (some ⟨X.sb,0,none⟩)] w fun e w'=>e=.returned (.int .i64 (C.ps:Int))/\w'=w):=StPages_any w hs
 have c0:=h.c0
 clear h hs
 go_enter Tryz.func30,Tryz.ntmps30
 go_wp2_with (first
  | (go_at_call 61;refine CM.out.mono ?_;rintro e w0 ⟨rfl,rfl⟩)
  | (go_at_call 62;refine CP.out.mono ?_;rintro e w1 ⟨rfl,rfl⟩))
 go_ret
 exact⟨rfl,rfl⟩
end
section
variable [Inhabited PrSet]{B k sure sure1:Nat}{w w':World}{S S':Dk}{X:Ad}{G:Gp}{C:Cf}{st pg:Nat->Option Nat}{pn:Nat->Nat}
structure PnO (B:Nat) (w w':World) (X:Ad) (k:Nat) (S:Dk) (C:Cf) (G:Gp) (st:Nat->Option Nat) (pn:Nat->Nat) (id:Int) (y:Int):Prop where
 ok:y=0->∃ (w1:World) (d j:Nat) (S':Dk) (sure':Nat) (G':Gp) (pg':Nat->Option Nat),id=(d:Int)/\d<C.ps/\Tk B w w1 X k S C G st pn id j S' sure' G' pg'/\Pv B w' X k S' C sure' (G'.set j {G'.F j with pn:=((pn d+1:Nat):Int)}) st (upd pn d (pn d+1)) pg'/\Kp isQ B w w'
 bad:y≠0->Er B w w' X k S C G id y
set_option maxHeartbeats 2000000 in
theorem Pin_any (h:Pv B w X k S C sure G st pn pg) (hk:k<=290000000000) (id:Int) (hp:∀ d,pn d<=1000):Calls Tryz.prog 102 #[.pointer (some ⟨X.pb,0,none⟩),.int .i64 id] w fun e w'=>∃ y,e=.returned (.int .i64 y)/\PnO B w w' X (k+8006) S C G st pn id y:=by
 have CT:Hid (Calls Tryz.prog 77 #[.pointer (some ⟨X.pb,0,none⟩),.int .i64 id] w fun e w'=>∃ p y,e=.returned (.tuple #[p,.int .i64 y])/\(y=0->∃ j S' sure' G' pg',p=.pointer (some ⟨X.fb j,0,none⟩)/\Tk B w w' X (k+8006) S C G st pn id j S' sure' G' pg')/\(y≠0->p=.pointer none/\Er B w w' X (k+8006) S C G id y)):=take_any h hk id
 have HF:Hid (∀ w1 j S1 sure1 G1 pg1,Tk B w w1 X (k+8006) S C G st pn id j S1 sure1 G1 pg1->∃ d:Nat,id=(d:Int)/\d<C.ps/\(G1.F j).pn=(pn d:Int)/\Pv B (w1.setCell ⟨X.fb j,5,none⟩ (.int .i64 ((pn d:Int)+1))) X (k+8006) S1 C sure1 (G1.set j {G1.F j with pn:=((pn d+1:Nat):Int)}) st (upd pn d (pn d+1)) pg1/\Kp isQ B w (w1.setCell ⟨X.fb j,5,none⟩ (.int .i64 ((pn d:Int)+1)))):=fun w1 j S1 sure1 G1 pg1 T=>by
  obtain⟨d,h1,h2⟩:=T.v.v.us j T.hj T.has.1
  have e:id=(d:Int):=by rw[← T.has.2];exact h2.id
  subst e
  have P1:=T.v.q.po.setF T.hj (f:={G1.F j with pn:=((pn d+1:Nat):Int)}) (i:=5) (u:=.int .i64 ((pn d:Int)+1)) rfl T.v.q.le
  exact⟨d,rfl,h1,h2.pn,⟨T.v.q.turn P1,T.v.p,T.v.v.pin T.hj T.has (pn d+1)⟩,T.kp.trans P1.2.f⟩
 have HP:Hid (∀ d,pn d<=1000):=hp
 clear h hk hp
 go_enter Tryz.func102,Tryz.ntmps102
 go_wp2_with (go_at_call 77;refine CT.out.mono ?_;rintro e w1 ⟨p,y,rfl,h0,h9⟩;rcases tor h0 h9 with⟨rfl,hP⟩ |⟨hy,hQ⟩ <;> first
  | (obtain⟨j,S1,sure1,G1,pg1,rfl,T1⟩:=hP;obtain⟨d,hd,hd8,hpn,V,K⟩:=HF.out _ _ _ _ _ _ T1;have f5:=T1.v.q.po.f5 T1.hj;rw[hpn] at f5;have z5:=T1.v.q.po.fz T1.hj 5;have HT:Hid (Tk B w w1 X (k+8006) S C G st pn id j S1 sure1 G1 pg1):=T1;have HV:Hid (Pv B (w1.setCell ⟨X.fb j,5,none⟩ (.int .i64 ((pn d:Int)+1))) X (k+8006) S1 C sure1 (G1.set j { G1.F j with pn:=((pn d+1:Nat):Int)}) st (upd pn d (pn d+1)) pg1):=V;have HK:Hid (Kp isQ B w (w1.setCell ⟨X.fb j,5,none⟩ (.int .i64 ((pn d:Int)+1)))):=K;have HD:Hid (id=(d:Int)):=hd;have HD8:Hid (d<C.ps):=hd8;have hb:=HP.out d;have hb2:(pn d:Int)<=1000:=(by omega);have hb3:(0:Int)<=(pn d:Int):=(by omega);clear T1 h0 h9 hd hd8 hpn V K hb)
  | (obtain⟨rfl,hE⟩:=hQ;have hyb:(y != 0)=true:=(by simpa using hy);have HE:Hid (Er B w w1 X (k+8006) S C G id y):=hE;clear h0 h9 hE))
 ·go_ret
  exact⟨0,rfl,fun _=>⟨w1,d,j,S1,sure1,G1,pg1,HD.out,HD8.out,HT.out,HV.out,HK.out⟩,fun e=>absurd rfl e⟩
 ·go_ret
  exact⟨y,rfl,fun e=>absurd e hy,fun _=>HE.out⟩
theorem Unpin_ok (h:Pv B w X k S C sure G st pn pg) (d:Nat) (hd:d<C.ps) (hz:pn d≠0) (hb:pn d<=1000):Calls Tryz.prog 104 #[.pointer (some ⟨X.pb,0,none⟩),.int .i64 (d:Int)] w fun e w'=>e=.returned (.int .i64 0)/\∃ j,j<X.n/\(G.F j).has (d:Int)/\Pv B w' X k S C sure (G.set j {G.F j with pn:=((pn d-1:Nat):Int)}) st (upd pn d (pn d-1)) pg/\Kp isQ B w w':=by
 have CM:Hid (Calls Tryz.prog 61 #[.pointer (some ⟨X.pb,0,none⟩)] w fun e w'=>e=.returned (.bool true)/\w'=w):=isMade_po h.q.po
 obtain⟨j,hj,hh,hlt⟩:=first_has G.F (d:Int) X.n (h.v.np d hd hz)
 have CF:Hid (Calls Tryz.prog 122 #[.pointer (some ⟨X.pb,0,none⟩),.int .i64 (d:Int)] w fun e w'=>e=.returned (.pointer (some ⟨X.fb j,0,none⟩))/\w'=w):=find_hit h.q.po (d:Int) j hj hh hlt
 have f5:=h.q.po.f5 hj
 have z5:=h.q.po.fz hj 5
 have e:(G.F j).pn=(pn d:Int):=(h.v.fat hj hh).2.pn
 rw[e] at f5
 have e2:((pn d-1:Nat):Int)=(pn d:Int)-1:=by omega
 have P1:=h.q.po.setF hj (f:={G.F j with pn:=((pn d-1:Nat):Int)}) (i:=5) (u:=.int .i64 ((pn d:Int)-1)) (by rw[← e2];rfl) h.q.le
 have HV:Hid (Pv B (w.setCell ⟨X.fb j,5,none⟩ (.int .i64 ((pn d:Int)-1))) X k S C sure (G.set j {G.F j with pn:=((pn d-1:Nat):Int)}) st (upd pn d (pn d-1)) pg/\Kp isQ B w (w.setCell ⟨X.fb j,5,none⟩ (.int .i64 ((pn d:Int)-1)))):=⟨⟨h.q.turn P1,h.p,h.v.pin hj hh (pn d-1)⟩,P1.2.f⟩
 have HJ:Hid (j<X.n/\(G.F j).has (d:Int)):=⟨hj,hh⟩
 have t1:((pn d:Int)==0)=false:=by simp;omega
 have t2:(pn d:Int)<=1000:=by omega
 have t3:(1:Int)<=(pn d:Int):=by omega
 clear h hj hh hlt e P1 hz hb hd
 go_enter Tryz.func104,Tryz.ntmps104
 go_wp2_with (first
  | (go_at_call 61;refine CM.out.mono ?_;rintro e w1 ⟨rfl,rfl⟩)
  | (go_at_call 122;refine CF.out.mono ?_;rintro e w0 ⟨rfl,rfl⟩))
 go_ret
 exact⟨rfl,j,HJ.out.1,HJ.out.2,HV.out.1,HV.out.2⟩
end
section
variable [Inhabited PrSet]{B:Nat}{w:World}{X:Ad}{G:Gp}
theorem PoIs.mono {B':Nat} (h:PoIs B w X G) (hB:B'<=B):PoIs B' w X G:=⟨h.blk,h.row,h.fr,h.inj,h.n1,h.n2,⟨Nat.le_trans hB h.gp.ge,h.gp.np⟩,fun j hj=>⟨Nat.le_trans hB (h.gf j hj).ge,(h.gf j hj).np⟩,h.gr,h.h0,h.h1⟩
end
section
variable {w w':World}
theorem New_out (sb l:Nat) (n:Int) (hn:n<2∨64<n) (w:World):Calls Tryz.prog 27 #[.pointer (some ⟨sb,0,none⟩),.pointer (some ⟨l,0,none⟩),.int .i64 n] w fun e w'=>e=.returned (.tuple #[.pointer none,.int .i64 1])/\w'=w:=by
 by_cases h1:n<2
 ·clear hn
  go_enter Tryz.func27,Tryz.ntmps27
  go_wp2
  go_ret2
  exact⟨rfl,rfl⟩
 ·have h2:64<n:=by omega
  clear hn
  go_enter Tryz.func27,Tryz.ntmps27
  go_wp2
  go_ret2
  exact⟨rfl,rfl⟩
end
section
variable [Inhabited PrSet]{w wr:World}{a:Option Addr}
structure Mk (w wr:World) (sb l pb:Nat) (fb:Nat->Nat) (i:Nat) (a:Option Addr) (c:Nat):Prop where
 blk:wr.heap[pb]?=some (.cells #[.pointer (some ⟨sb,0,none⟩),.pointer (some ⟨l,0,none⟩),.slice a i c,.int .i64 0,.int .i64 0,.int .i64 0] 132)
 own:OwnP w.heap.size wr (.slice a i c) ⟨0,0,0,0,0,0,0,fb⟩ (List.range i)
 fr:∀ j,j<i->wr.heap[fb j]?=some (.cells zF.A 137)
 inj:∀ j j',j<i->j'<i->fb j=fb j'->j=j'
 ge:∀ j,j<i->w.heap.size<=fb j
 gp:w.heap.size<=pb
 bel:Below w.heap.size w wr
end
section
variable {w:World}{X:Ad}{js:List Nat}
theorem OwnP.fbs {b0:Nat} {v:Value} {X':Ad} (h:OwnP b0 w v X js) (he:∀ j∈js,X'.fb j=X.fb j):OwnP b0 w v X' js:=by
 have e:js.map (ptF X')=js.map (ptF X):=List.map_congr_left (fun j hj=>by unfold ptF;rw[he j hj])
 exact⟨by rw[e];exact h.row⟩
end
section
variable {w wr:World}{a:Option Addr}
theorem Mk.cell {sb l pb i c:Nat} {fb:Nat->Nat} (h:Mk w wr sb l pb fb i a c):wr.cell? ⟨pb,2,none⟩=some (.slice a i c):=Joins.cell_of_block h.blk 2
end
section
variable {k:Nat}{w wr:World}{a:Option Addr}
theorem Mk.step {sb l pb i c q:Nat} {fb:Nat->Nat} {w1 w2:World} {a2:Option Addr} {c2:Nat} (h:Mk w wr sb l pb fb i a c) (N:NewO wr w1 q zF.A 137)
  (o2:OwnP w.heap.size w2 (.slice a2 (i+1) c2) ⟨0,0,0,0,0,0,0,upd fb i q⟩ (List.range i++[i])) (hk:∀ (k:Nat) (t:TypeId) (cur:Array Value) (fz:Nat × Nat),w1.heap[k]?=some (Obj.cells cur t fz)->t≠133->w2.heap[k]?=some (Obj.cells cur t fz)) (hb2:Below w.heap.size w1 w2) :
  Mk w (w2.setCell ⟨pb,2,none⟩ (.slice a2 (i+1) c2)) sb l pb (upd fb i q) (i+1) a2 c2:=by
 have hb1:=(N.below.block _ (lt_of_some h.blk)).trans h.blk
 have hb:=hk _ _ _ _ hb1 (by decide)
 have hq:w.heap.size<=q:=by rw[N.eq];exact h.bel.size
 have hqlt:∀ j,j<i->fb j≠q:=fun j hj e=>by
  have:=lt_of_some (h.fr j hj)
  have:=N.eq
  omega
 have hfr:∀ j,j<i+1->w2.heap[upd fb i q j]?=some (.cells zF.A 137):=fun j hj=>by
  by_cases e:j=i
  ·subst e;rw[upd_same];exact hk _ _ _ _ N.blk (by decide)
  ·rw[upd_other _ _ e]
   exact hk _ _ _ _ ((N.below.block _ (lt_of_some (h.fr j (by omega)))).trans (h.fr j (by omega))) (by decide)
 have hset:∀ k:Nat,k≠pb->(w2.setCell ⟨pb,2,none⟩ (.slice a2 (i+1) c2)).heap[k]?=w2.heap[k]?:=fun k hne=>Below.heap_setCell _ _ _ _ hne
 have hnp:∀ j,j<i+1->upd fb i q j≠pb:=fun j hj e=>by
  have:=hfr j hj
  rw[e,hb] at this
  simp at this
 refine⟨Joins.block_setCell hb _,?_,fun j hj=>(hset _ (hnp j hj)).trans (hfr j hj),fun j j' hj hj' e=>?_,fun j hj=>?_,h.gp,(h.bel.trans (N.below.mono h.bel.size)).trans (hb2.setCell (p:=⟨pb,2,none⟩) h.gp _)⟩
 ·rw[List.range_succ]
  obtain⟨r1,r2⟩:=o2.row
  refine⟨r1,?_⟩
  rcases r2 with r2 |⟨g,cap,cur,e,hB,hg,h3⟩
  ·exact Or.inl r2
  ·refine Or.inr ⟨g,cap,cur,e,hB,(hset g (fun e2=>?_)).trans hg,h3⟩
   rw[e2,hb] at hg
   simp at hg
 ·by_cases e1:j=i
  ·by_cases e2:j'=i
   ·omega
   ·subst e1
    rw[upd_same,upd_other _ _ e2] at e
    exact absurd e.symm (hqlt j' (by omega))
  ·by_cases e2:j'=i
   ·subst e2
    rw[upd_same,upd_other _ _ e1] at e
    exact absurd e (hqlt j (by omega))
   ·rw[upd_other _ _ e1,upd_other _ _ e2] at e
    exact h.inj j j' (by omega) (by omega) e
 ·by_cases e1:j=i
  ·subst e1;rw[upd_same];exact hq
  ·rw[upd_other _ _ e1];exact h.ge j (by omega)
end
section
variable {k:Nat}{w wr:World}{a:Option Addr}
theorem Mk.step2 {sb l pb i c q:Nat} {fb:Nat->Nat} {w1 w2:World} {a2:Option Addr} {c2:Nat} {x:Value} (h:Mk w wr sb l pb fb i a c) (N:NewO wr w1 q zF.A 137)
  (o2:OwnP w.heap.size w2 (.slice a2 (i+1) c2) ⟨0,0,0,0,0,0,0,upd fb i q⟩ (List.range i++[i])) (hk:∀ (k:Nat) (t:TypeId) (cur:Array Value) (fz:Nat × Nat),(w1.alloc (.cells #[x] 133)).heap[k]?=some (Obj.cells cur t fz)->t≠133->w2.heap[k]?=some (Obj.cells cur t fz)) (hb2:Below w.heap.size (w1.alloc (.cells #[x] 133)) w2) :
  Mk w (w2.setCell ⟨pb,2,none⟩ (.slice a2 (i+1) c2)) sb l pb (upd fb i q) (i+1) a2 c2:=by
 have hb:Below w1.heap.size w1 (w1.alloc (.cells #[x] 133)):=(Below.refl _ _).alloc (Nat.le_refl _) _
 have hs:w.heap.size<=w1.heap.size:=Nat.le_trans h.bel.size N.below.size
 exact h.step N o2 (fun k t cur fz e ht=>hk k t cur fz ((hb.block _ (lt_of_some e)).trans e) ht) ((hb.mono hs).trans hb2)
end
section
variable {k:Nat}{w wr:World}{a:Option Addr}
theorem Mk.pbk {sb l pb i c q:Nat} {fb:Nat->Nat} {w1 w2:World} {x:Value} (h:Mk w wr sb l pb fb i a c) (N:NewO wr w1 q zF.A 137) (hk:∀ (k:Nat) (t:TypeId) (cur:Array Value) (fz:Nat × Nat),(w1.alloc (.cells #[x] 133)).heap[k]?=some (Obj.cells cur t fz)->t≠133->w2.heap[k]?=some (Obj.cells cur t fz)):w2.heap[pb]?=some (.cells #[.pointer (some ⟨sb,0,none⟩),.pointer (some ⟨l,0,none⟩),.slice a i c,.int .i64 0,.int .i64 0,.int .i64 0] 132):=by
 have hb:Below w1.heap.size w1 (w1.alloc (.cells #[x] 133)):=(Below.refl _ _).alloc (Nat.le_refl _) _
 have hb1:=(N.below.block _ (lt_of_some h.blk)).trans h.blk
 exact hk _ _ _ _ ((hb.block _ (lt_of_some hb1)).trans hb1) (by decide)
end
section
variable [Inhabited PrSet]{w w' wr:World}{X:Ad}{js:List Nat}{a:Option Addr}
structure NwO (w w':World) (db sb l n:Nat) (e:Ending) (pb ra cp:Nat) (fb:Nat->Nat):Prop where
 e:e=.returned (.tuple #[.pointer (some ⟨pb,0,none⟩),.int .i64 0])
 po:PoIs w.heap.size w' ⟨db,sb,l,pb,ra,cp,n,fb⟩ ⟨0,0,0,fun _=>zF⟩
 bel:Below w.heap.size w w'
set_option maxHeartbeats 4000000 in
theorem New_po (db sb l n:Nat) (h2:2<=n) (h64:n<=64) (w:World) (hlp:Ltp w):Calls Tryz.prog 27 #[.pointer (some ⟨sb,0,none⟩),.pointer (some ⟨l,0,none⟩),.int .i64 (n:Int)] w fun e w'=>∃ pb ra cp fb,NwO w w' db sb l n e pb ra cp fb:=by
 have t1:¬ (n:Int)<2:=by omega
 have t2:¬ (64:Int)<(n:Int):=by omega
 have HE:Hid (∀ wr pb fb a c,Mk w wr sb l pb fb n a c->∃ ra cp,PoIs w.heap.size wr ⟨db,sb,l,pb,ra,cp,n,fb⟩ ⟨0,0,0,fun _=>zF⟩/\Below w.heap.size w wr):=fun wr pb fb a c M=>by
  rcases M.own.row.2 with⟨e,hz⟩ |⟨g,cap,cur,e,hbg,hgg,hnc,hcm,hcs,htake⟩
  ·have:(List.range n).length=0:=hz
   rw[List.length_range] at this;omega
  ·injection e with e1 e2 e3
   subst e1 e3
   refine⟨g,c,⟨M.blk,⟨cur,_,hgg,fun j hj=>?_⟩,M.fr,M.inj,h2,h64,hlp.ow (Nat.le_refl _) M.gp,fun j hj=>hlp.ow (Nat.le_refl _) (M.ge j hj),hlp.new hbg,Int.le_refl _,by show(0:Int)<=(n:Int);omega⟩,M.bel⟩
   have hj':j<n:=hj
   have:((List.range n).map (ptF ⟨0,0,0,0,0,0,0,fb⟩))[j]?=some (.pointer (some ⟨fb j,0,none⟩)):=by
    rw[List.getElem?_map,List.getElem?_range (by exact hj)];rfl
   rw[← htake,List.getElem?_take,if_pos (by rw[List.length_range];omega)] at this
   simpa using this
 clear hlp
 go_enter Tryz.func27,Tryz.ntmps27
 go_wp2_with (refine wpList_box_o (A:=#[.pointer (some ⟨sb,0,none⟩),.pointer (some ⟨l,0,none⟩),.slice none 0 0,.int .i64 0,.int .i64 0,.int .i64 0]) _ rfl _ rfl rfl ?_;intro w1 pb N1)
 have M0:Hid (Mk w w1 sb l pb (fun _=>0) 0 none 0):=⟨N1.blk,OwnP.nil _ _,fun j hj=>by omega,fun j j' hj=>by omega,fun j hj=>by omega,by rw[N1.eq];exact Nat.le_refl _,N1.below⟩
 clear N1
 go_loopw [28] (fun iv wr=>∃ (i:Nat) (fb:Nat->Nat) (a:Option Addr) (c:Nat),i<=n/\iv=.int .i64 (i:Int)/\Mk w wr sb l pb fb i a c) (fun iv _=>n-(intOf iv).toNat)
 case atStart=>exact⟨0,_,_,_,Nat.zero_le _,rfl,M0.out⟩
 case round =>
  obtain⟨i,fb,a,c,hi,rfl,hM⟩:=hrel
  have HM:Hid (Mk w wr sb l pb fb i a c):=hM
  have c2:=hM.cell
  clear hM
  by_cases hlt:i<n
  ·have i1:(i:Int)<(n:Int):=by omega
   have i64:(i:Int)<=64:=by omega
   have hl:Hid ((List.range i).length<=100000):=(by rw[List.length_range];omega:(List.range i).length<=100000)
   have hll:Hid ((List.range i).length=i):=List.length_range
   go_wp2_with (first
    | (refine wpList_box_o (A:=zF.A) _ rfl _ rfl rfl ?_;intro w2 q N2;have HN2:Hid (NewO wr w2 q zF.A 137):=N2;have B2:Hid (Below w.heap.size w w2):=HM.out.bel.trans (N2.below.mono HM.out.bel.size);have O2:Hid (OwnP w.heap.size w2 (.slice a i c) ⟨0,0,0,0,0,0,0,upd fb i q⟩ (List.range i)):=(HM.out.own.below N2.below).fbs (fun j hj=>upd_other _ _ (by have:=List.mem_range.1 hj;omega));clear N2)
    | (at_builtin;refine wpList_append_ptr (b0:=w.heap.size) (X:=⟨0,0,0,0,0,0,0,upd fb i q⟩) (js:=List.range i) (j:=i) rfl _ _ rfl rfl (O2.out.below ((Below.refl _ _).alloc (Nat.le_refl _) _)) rfl (by rw[cell_new0];unfold ptF;dsimp only;rw[upd_same]) ?_ hl.out ?_;exact Nat.le_trans B2.out.size (by simp);intro v3 w3 o3 b3 k3;obtain⟨a3,c3,rfl⟩:=o3.ex;have hl3:(List.range i++[i]).length=i+1:=(by simp);rw[hl3] at o3;have HS:Hid (Mk w (w3.setCell ⟨pb,2,none⟩ (.slice a3 (i+1) c3)) sb l pb (upd fb i q) (i+1) a3 c3):=Mk.step2 HM.out HN2.out o3 k3 b3;have hb3:=Mk.pbk HM.out HN2.out k3;have c2':=Joins.cell_of_block hb3 2;have z2':=Joins.unfrozen_of_block hb3 2;clear o3 b3 k3 hb3))
   go_roundw
   case rel=>exact⟨i+1,upd fb i q,a3,c3,hlt,by go_num,HS.out⟩
   case measure=>simp[intOf];omega
  ·obtain rfl:i=n:=by omega
   have i1:¬ (i:Int)<(i:Int):=by omega
   obtain⟨ra,cp,hp,hb⟩:=HE.out _ _ _ _ _ HM.out
   clear hlt hi HM
   go_wp2
   go_ret2
   exact⟨pb,ra,cp,fb,rfl,hp,hb⟩
end
end Go.Proofs.YtpcnjncgilmehabGreat
