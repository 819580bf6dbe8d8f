import Derived.Test.YtpcnjncgilmehabGreatMaq
import Derived.Deep.RegionHeld3
set_option linter.unusedVariables false
set_option linter.unusedSimpArgs false
set_option maxRecDepth 100000
namespace Go.Proofs.YtpcnjncgilmehabGreat
open Go.RowKit Go.Maps Go.ChangeMaps
structure Cf where
 lb:Nat
 sc:Nat
 run:Nat
 bs:Nat
 ps:Nat
 gn:Nat
 n:Nat
 fs:List ByteArray
 T:Nat->Nat->ByteArray
 pv:Nat->Nat->Option Nat
 lo:Nat->Nat
structure Cf.Ok (C:Cf):Prop where
 ap:C.lb+C.sc<=C.bs∨C.bs+4*C.ps<=C.lb
 ft:C.bs+4*C.ps<=C.n
 n2:C.n<=8192
 g1:1<=C.gn
 g2:C.gn<=65535
 tz:∀ id l,(C.T id l).size=224
def txO (C:Cf) (id:Nat):Option Nat->ByteArray
 | none=>⟨#[]⟩
 | some l=>C.T id l
def lnO:Option Nat->Int
 | none=>0
 | some l=>(l:Int)
def RWs (C:Cf) (m id q:Nat) (c:ByteArray):Prop:=(C.lo id=0/\gnS c≠C.gn)∨∃ l,1<=l/\C.lo id<=l/\l<=m/\c=sec C.gn l (C.T id l) q
def RW (C:Cf) (m i:Nat) (c:ByteArray):Prop:=∀ id q,id<C.ps->q<4->i=C.bs+4*id+q->RWs C m id q c
structure Sp (S:Dk) (C:Cf) (sure:Nat) (pg:Nat->Option Nat):Prop where
 all:∀ id q,id<C.ps->q<4->RWs C (off C.fs sure) id q (S.now (C.bs+4*id+q))
 rd1:∀ id l,id<C.ps->pg id=some l->rdV C.gn (fun i=>S.now (C.bs+4*id+i))=(C.T id l,(l:Int),0)
 rd0:∀ id,id<C.ps->pg id=none->∃ t l e,rdV C.gn (fun i=>S.now (C.bs+4*id+i))=(t,l,e)/\(e=8∨e=10)
 lt:∀ id l,id<C.ps->pg id=some l->1<=l/\l<=off C.fs sure
structure Cf.Ext (C C':Cf):Prop where
 lb:C'.lb=C.lb
 sc:C'.sc=C.sc
 run:C'.run=C.run
 bs:C'.bs=C.bs
 ps:C'.ps=C.ps
 gn:C'.gn=C.gn
 n:C'.n=C.n
 fs:∃ gs,C'.fs=C.fs++gs
 T:∀ id l,id<C.ps->l<=(cat C.fs).size->C'.T id l=C.T id l
 pv:∀ id l,id<C.ps->l<=(cat C.fs).size->C'.pv id l=C.pv id l
 lo:∀ id,id<C.ps->C'.lo id=C.lo id
section
variable {k bs sc sure l m:Nat}{S S':Dk}{fs:List ByteArray}{C C':Cf}{pg:Nat->Option Nat}
theorem rdV_congr {g:Nat} {f f':Nat->ByteArray} (h:∀ i,i<4->f i=f' i):rdV g f=rdV g f':=by
 have h0:=h 0 (by omega)
 have h1:=h 1 (by omega)
 have h2:=h 2 (by omega)
 have h3:=h 3 (by omega)
 unfold rdV
 simp only[knwJ,whlJ,txtJ,h0,h1,h2,h3]
 rfl
theorem RWs.mono {m m' id q:Nat} {c:ByteArray} (h:RWs C m id q c) (hm:m<=m'):RWs C m' id q c:=by
 rcases h with h |⟨l,h1,h0,h2,h3⟩
 ·exact Or.inl h
 ·exact Or.inr ⟨l,h1,h0,by omega,h3⟩
theorem Sp.mono {sure':Nat} (h:Sp S C sure pg) (hs:off C.fs sure<=off C.fs sure'):Sp S C sure' pg:=⟨fun id q h1 h2=>(h.all id q h1 h2).mono hs,h.rd1,h.rd0,fun id l h1 h2=>⟨(h.lt id l h1 h2).1,Nat.le_trans (h.lt id l h1 h2).2 hs⟩⟩
theorem Sp.eq (h:Sp S C sure pg) (he:∀ i,C.bs<=i->i<C.bs+4*C.ps->S'.now i=S.now i):Sp S' C sure pg:=by
 have hf:∀ id,id<C.ps->∀ i,i<4->S'.now (C.bs+4*id+i)=S.now (C.bs+4*id+i):=fun id h1 i hi=>he _ (by omega) (by omega)
 refine⟨fun id q h1 h2=>by rw[hf id h1 q h2];exact h.all id q h1 h2,fun id l h1 h2=>?_,fun id h1 h2=>?_,h.lt⟩
 ·rw[← h.rd1 id l h1 h2];exact rdV_congr (fun i hi=>hf id h1 i hi)
 ·obtain⟨t,l,e,e1,e2⟩:=h.rd0 id h1 h2
  exact⟨t,l,e,by rw[← e1];exact rdV_congr (fun i hi=>hf id h1 i hi),e2⟩
theorem rd_out (C:Cf) (S:Dk) {id:Int} (h:¬ (0<=id/\id<C.ps)):rdOut C.bs C.ps C.gn S id=(⟨#[]⟩,0,6):=by
 unfold rdOut;rw[if_pos (by omega)]
theorem rd_in (C:Cf) (S:Dk) {id:Nat} (h:id<C.ps):rdOut C.bs C.ps C.gn S (id:Int)=rdV C.gn (fun i=>S.now (C.bs+4*id+i)):=by
 unfold rdOut;rw[if_neg (by omega),Int.toNat_natCast]
theorem Sp.allR (h:Sp S C sure pg) (hw:∀ i,S.wait i=none):AllR (RW C (off C.fs sure)) S:=by
 refine⟨fun i id q h1 h2 e=>?_,fun i c hc=>by rw[hw] at hc;cases hc⟩
 subst e
 have:=h.all id q h1 h2
 unfold Dk.now at this
 rw[hw] at this
 exact this
theorem Cf.Ext.cat (h:C.Ext C'):(cat C.fs).size<=(cat C'.fs).size:=by
 obtain⟨gs,e⟩:=h.fs
 rw[e,cat_append,ByteArray.size_append];omega
theorem Cf.Ext.off (h:C.Ext C') {i:Nat} (hi:i<=C.fs.length):off C'.fs i=off C.fs i:=by
 obtain⟨gs,e⟩:=h.fs
 unfold Go.Proofs.YtpcnjncgilmehabGreat.off
 rw[e,List.take_append_of_le_length hi]
theorem Cf.Ext.ok (h:C.Ext C') (k:C.Ok) (ht:∀ id l,(C'.T id l).size=224):C'.Ok:=by
 obtain⟨a1,a2,a3,a4,a5,a6⟩:=k
 refine⟨?_,?_,?_,?_,?_,ht⟩
 ·rw[h.lb,h.sc,h.bs,h.ps];exact a1
 ·rw[h.bs,h.ps,h.n];exact a2
 ·rw[h.n];exact a3
 ·rw[h.gn];exact a4
 ·rw[h.gn];exact a5
theorem RWs.ext (he:C.Ext C') {m id q:Nat} {c:ByteArray} (h:RWs C m id q c) (hid:id<C.ps) (hm:m<=(cat C.fs).size):RWs C' m id q c:=by
 rcases h with h |⟨l,h1,h0,h2,h3⟩
 ·exact Or.inl ⟨by rw[he.lo id hid];exact h.1,by rw[he.gn];exact h.2⟩
 ·exact Or.inr ⟨l,h1,by rw[he.lo id hid];exact h0,h2,by rw[he.gn,he.T id l hid (by omega)];exact h3⟩
theorem Sp.ext (he:C.Ext C') (h:Sp S C sure pg) (hs:sure<=C.fs.length):Sp S C' sure pg:=by
 have ho:Go.Proofs.YtpcnjncgilmehabGreat.off C.fs sure<=(Go.Proofs.YtpcnjncgilmehabGreat.cat C.fs).size:=by have:=off_mono (l:=C.fs) hs;rw[off_all] at this;exact this
 refine⟨fun id q h1 h2=>?_,fun id l h1 h2=>?_,fun id h1 h2=>?_,fun id l h1 h2=>?_⟩
 ·rw[he.off hs,he.bs];rw[he.ps] at h1
  exact(h.all id q h1 h2).ext he h1 ho
 ·rw[he.ps] at h1
  rw[he.gn,he.bs,he.T id l h1 (Nat.le_trans (h.lt id l h1 h2).2 ho)]
  exact h.rd1 id l h1 h2
 ·rw[he.ps] at h1
  rw[he.gn,he.bs]
  exact h.rd0 id h1 h2
 ·rw[he.ps] at h1
  rw[he.off hs];exact h.lt id l h1 h2
end
-- GEN
section
variable [Inhabited PrSet]{B k db bs sc run sure l:Nat}{w w':World}{S S':Dk}{fs:List ByteArray}
theorem Lv.flush2 (h:Lv B w l k S db bs sc run fs sure) (hk:k<=300000000000):Calls Tryz.prog 218 #[.pointer (some ⟨l,0,none⟩)] w fun e w'=>∃ y,e=.returned (.int .i64 y)/\∃ S',Kp isA B w w'/\((y=0/\Lv B w' l (k+sc+1) S' db bs sc run fs fs.length)∨(y=9/\Ds B w' db (k+sc+1) S'/\Wt S' bs sc run fs sure))/\∃ N,Laid S S' N y/\∀ i c,N i=some c->bs<=i/\i<bs+sc:=by
 obtain⟨Q,hQ,hstd⟩:=h.q
 have hle:=h.lx.le
 have hm:=off_mono (l:=fs) h.hs
 rw[off_all] at hm
 rcases Nat.lt_or_ge (off fs sure) (cat fs).size with hd |hd
 ·refine(flush_any h.lx hk h.fit hd (by have:=h.r2;omega) h.n h.up).mono ?_
  rintro e w' ⟨S',x,rfl,hF⟩
  have hlx:=hF.lx
  have hL:=hF.ld
  have hT:=fs_split fs sure
  refine⟨x,rfl,S',hF.kp,?_,_,hL,fun i c hc=>?_⟩
  ·by_cases hx:x=0
   ·subst hx
    obtain⟨hu,hw,_⟩:=hL.ok rfl
    left
    refine⟨rfl,?_,hu,h.fit,Nat.le_refl _,by rw[hL.n];exact h.n,h.r2,?_⟩
    ·rw[off_all];exact hlx
    ·refine⟨_,hQ.laid (Nat.le_refl _) hL,?_⟩
     rw[List.take_length]
     exact hstd.flush hT hd h.fit.sz
   ·obtain⟨h9,hu,hw⟩:=hL.bad hx
    right
    refine⟨h9,hlx.d,?_⟩
    obtain⟨Q',hQ',hor⟩:=hQ.lost (Nat.le_refl _) hL hx
    refine⟨Q',hQ',fun rn hr=>?_⟩
    have hsz:(cat (fs.take sure)).size=off fs sure:=rfl
    obtain⟨y,z,e1,e2⟩:=hstd.grow (T:=cat fs) (Q':=Q') (r':=run) hT h.fit.sz hr (Nat.le_refl _) (fun i hi=>by
     rcases hor i hi with e |⟨e3,e4,e⟩
     ·exact Or.inl e
     ·exact Or.inr ⟨by rw[hsz];omega,e⟩) (Or.inl rfl)
    exact⟨z,by rw[e1];exact e2,by rw[e1,bsz,hsz];omega⟩
  ·unfold nw at hc
   split at hc
   ·rename_i hb
    have:=h.fit.sz
    omega
   ·cases hc
 ·have hd2:off fs sure=(cat fs).size:=by omega
  refine(flush_same h.lx h.fit hd2).mono ?_
  rintro e w' ⟨rfl,hb⟩
  have he:sure=fs.length:=off_inj h.fit.frm h.hs (Nat.le_refl _) (by rw[hd2,off_all])
  refine⟨0,rfl,S,Kp.of_below hb hle,Or.inl ⟨rfl,?_⟩,fun _=>none,⟨rfl,fun _=>⟨h.up,hQ.wait,fun i=>?_⟩,fun h=>absurd rfl h,fun R hR _=>hR,fun hs=>⟨rfl,hs⟩⟩,fun i c hc=>by cases hc⟩
  ·have:=(h.below hb).mono (k':=k+sc+1) (by omega)
   rw[he] at this
   exact this
  ·show S.sure i=S.now i
   unfold Dk.now
   rw[hQ.wait];rfl
theorem Lv.nowait (h:Lv B w l k S db bs sc run fs sure) (i:Nat):S.wait i=none:=by obtain⟨Q,hQ,_⟩:=h.q;exact hQ.wait i
theorem Lv.laid {k':Nat} (h:Lv B w l k S db bs sc run fs sure) {N:Nat->Option ByteArray} (hL:Laid S S' N 0) (hN:∀ i c,N i=some c->i<bs∨bs+sc<=i) (hd:Ds B w' db k' S') (hK:Kp isD B w w'):Lv B w' l k' S' db bs sc run fs sure:=by
 obtain⟨hu,hw,hsu⟩:=hL.ok rfl
 obtain⟨Q,hQ,hs⟩:=h.q
 refine⟨⟨hd,h.lx.g.keptD hK⟩,hu,h.fit,h.hs,by rw[hL.n];exact h.n,h.r2,Q,⟨fun i hi=>?_,hQ.run,hQ.sz,hw⟩,hs⟩
 unfold Dk.now
 rw[hw]
 show S'.sure (bs+i)=_
 rw[hsu]
 cases hc:N (bs+i) with
 | none=>exact hQ.now i hi
 | some c=>have:=hN _ _ hc;omega
end
section
variable {bs sc run sure:Nat}{S S':Dk}{fs:List ByteArray}
theorem Wt.laid {r lo:Nat} (h:Wt S bs sc r fs lo) {N:Nat->Option ByteArray} {y:Int} (hL:Laid S S' N y) (hy:y≠0) (hN:∀ i c,N i=some c->i<bs∨bs+sc<=i):Wt S' bs sc r fs lo:=by
 obtain⟨Q,hQ,hs⟩:=h.q
 obtain⟨_,_,hw⟩:=hL.bad hy
 have hA:AllR (fun j c=>∀ i,i<sc->j=bs+i->c=encQ (Q i)) S:=by
  refine⟨fun j i hi e=>?_,fun j c hc=>by rw[hQ.wait] at hc;cases hc⟩
  subst e
  exact hQ.lasts hi
 have hB:=hL.all _ hA (fun j c hc i hi e=>by have:=hN j c hc;omega)
 refine⟨Q,⟨fun i hi=>?_,hQ.run,hQ.sz,hw⟩,hs⟩
 unfold Dk.now
 rw[hw]
 exact hB.sure _ i hi rfl
end
section
variable [Inhabited PrSet]{B k db bs sc run sure l m:Nat}{w w':World}{S S':Dk}{fs:List ByteArray}{X:Ad}{G:Gp}{C:Cf}{pg:Nat->Option Nat}
theorem Lv.keptF (h:Lv B w l k S db bs sc run fs sure) {B':Nat} (hb:Kp isF B' w w'):Lv B w' l k S db bs sc run fs sure:=⟨h.lx.keptA isF_not hb,h.up,h.fit,h.hs,h.n,h.r2,h.q⟩
structure Pq (B:Nat) (w:World) (X:Ad) (k:Nat) (S:Dk) (C:Cf) (sure:Nat) (G:Gp):Prop where
 lv:Lv B w X.l k S X.db C.lb C.sc C.run C.fs sure
 st:StIs w X.sb X.db C.bs C.ps C.gn
 po:PoIs B w X G
 n:S.n=C.n
 ok:C.Ok
structure Lo (B:Nat) (w:World) (db sb k:Nat) (S:Dk) (C:Cf) (m:Nat):Prop where
 d:Ds B w db k S
 st:StIs w sb db C.bs C.ps C.gn
 wt:Wt S C.lb C.sc C.run C.fs m
 all:AllR (RW C (off C.fs m)) S
 n:S.n=C.n
 up:S.up=false
 ok:C.Ok
 fit:Fit C.sc C.fs
 hm:m<=C.fs.length
theorem Pq.sl (h:Pq B w X k S C sure G):sure<=C.fs.length:=h.lv.hs
theorem Pq.cz (h:Pq B w X k S C sure G):(cat C.fs).size<=464000:=by have h1:=h.lv.fit.sz;have h2:=h.lv.fit.s1;omega
theorem Pq.le (h:Pq B w X k S C sure G):B<=w.heap.size:=h.lv.lx.le
theorem Pq.ds (h:Pq B w X k S C sure G):Ds B w X.db k S:=h.lv.lx.d
theorem Pq.below (h:Pq B w X k S C sure G) (hb:Below w.heap.size w w'):Pq B w' X k S C sure G:=⟨h.lv.below hb,h.st.below hb,h.po.below hb,h.n,h.ok⟩
theorem Pq.mono {k':Nat} (h:Pq B w X k S C sure G) (hk:k<=k'):Pq B w X k' S C sure G:=⟨h.lv.mono hk,h.st,h.po,h.n,h.ok⟩
theorem Pq.turn {G':Gp} (h:Pq B w X k S C sure G) (hp:PoIs B w' X G'/\Kp isF B w w'):Pq B w' X k S C sure G':=⟨h.lv.keptF hp.2,h.st.kept hp.2.f,hp.1,h.n,h.ok⟩
theorem Pq.need (h:Pq B w X k S C sure G) (hp:Sp S C sure pg) (hk:k<=300000000000) (r:Nat) (hr:r<=(cat C.fs).size):Calls Tryz.prog 182 #[.pointer (some ⟨X.l,0,none⟩),.int .i64 (lnO (some r))] w fun e w'=>∃ y,e=.returned (.int .i64 y)/\Kp isA B w w'/\∃ S' sure',(S.set=false->y=0/\S'.set=false)/\((y=0/\Pq B w' X (k+8001) S' C sure' G/\Sp S' C sure' pg/\off C.fs sure<=off C.fs sure'/\r<=off C.fs sure')∨(y=9/\Lo B w' X.db X.sb (k+8001) S' C sure)):=by
 have hsl:=h.sl
 have hle:=h.le
 have hs1:=h.lv.fit.s1
 have hap:=h.ok.ap
 by_cases hx:lnO (some r)<(off C.fs sure:Int)+1
 ·refine(need_near h.lv.lx _ hx).mono ?_
  rintro e w' ⟨rfl,rfl⟩
  refine⟨0,rfl,Kp.refl _ _ _,S,sure,fun hs=>⟨rfl,hs⟩,Or.inl ⟨rfl,h.mono (by omega),hp,Nat.le_refl _,?_⟩⟩
  simp only[lnO] at hx
  omega
 ·refine(need_far (P:=fun y w'=>Kp isA B w w'/\∃ S' sure',(S.set=false->y=0/\S'.set=false)/\((y=0/\Pq B w' X (k+8001) S' C sure' G/\Sp S' C sure' pg/\off C.fs sure<=off C.fs sure'/\r<=off C.fs sure')∨(y=9/\Lo B w' X.db X.sb (k+8001) S' C sure))) h.lv.lx _ hx ((h.lv.flush2 hk).mono ?_))
  rintro e w' ⟨y,rfl,S',hK,hor,N,hL,hN⟩
  refine⟨y,rfl,hK,S',?_⟩
  rcases hor with⟨rfl,hlv⟩ |⟨rfl,hd,hwt⟩
  ·obtain⟨hu,hw,hsu⟩:=hL.ok rfl
   refine⟨C.fs.length,hL.calm,Or.inl ⟨rfl,⟨hlv.mono (by omega),h.st.kept hK.q,h.po.kept hK,by rw[hL.n];exact h.n,h.ok⟩,(hp.mono (off_mono hsl)).eq (fun i hi hi2=>?_),off_mono hsl,by rw[off_all];exact hr⟩⟩
   unfold Dk.now
   rw[hw]
   show S'.sure i=_
   rw[hsu]
   cases hc:N i with
   | none=>rfl
   | some c=>have:=hN _ _ hc;omega
  ·refine⟨sure,fun hs=>absurd (hL.calm hs).1 (by omega),Or.inr ⟨rfl,hd.mono (by omega),h.st.kept hK.q,hwt,hL.all _ (hp.allR h.lv.nowait) (fun i c hc id q h1 h2 e=>by have:=hN _ _ hc;omega),by rw[hL.n];exact h.n,(hL.bad (by omega)).2.1,h.ok,h.lv.fit,hsl⟩⟩
end
section
variable [Inhabited PrSet]
def at_ (hd n i:Nat):Nat:=if hd+i<n then hd+i else hd+i-n
end
section
theorem at_lt {hd n i:Nat} (h:hd<=n) (hi:i<n):at_ hd n i<n:=by unfold at_;split <;> omega
end
section
theorem at_all {hd n j:Nat} (h:hd<=n) (hj:j<n):∃ i,i<n/\at_ hd n i=j:=by
 by_cases e:hd<=j
 ·exact⟨j-hd,by omega,by unfold at_;rw[if_pos (by omega)];omega⟩
 ·exact⟨j+n-hd,by omega,by unfold at_;rw[if_neg (by omega)];omega⟩
end
section
theorem at_rem {hd n i:Nat} (h:hd<=n) (hi:i<n):(((hd:Int)+(i:Int)).tmod (n:Int))=((at_ hd n i:Nat):Int):=by
 have:=rem_lt (a:=hd+i) (n:=n) (by omega)
 rw[show((hd+i:Nat):Int)=(hd:Int)+(i:Int) by omega] at this
 rw[this]
 rfl
end
section
variable [Inhabited PrSet]{B:Nat}{w w':World}{X:Ad}{G:Gp}
set_option maxHeartbeats 1000000 in
theorem pick_some (h:PoIs B w X G) (hz:∃ j,j<X.n/\(G.F j).pn=0):Calls Tryz.prog 124 #[.pointer (some ⟨X.pb,0,none⟩)] w fun e w'=>∃ a:Nat,e=.returned (.int .i64 (a:Int))/\a<X.n/\(G.F a).pn=0/\Below w.heap.size w w':=by
 obtain⟨hd,hhd⟩:∃ hd:Nat,G.hd=(hd:Int):=⟨G.hd.toNat,by have:=h.h0;omega⟩
 have hle:hd<=X.n:=by have:=h.h1;omega
 obtain⟨j,hj,hp⟩:=hz
 obtain⟨m,hm,rfl⟩:=at_all hle hj
 have H:Hid (PoIs B w X G):=h
 have c2:=h.c2
 have hn2:=h.n2
 have hn1:=h.n1
 have HP:Hid ((G.F (at_ hd X.n m)).pn=0):=hp
 have hm64:Hid (m<X.n):=hm
 clear h hp hj
 go_enter Tryz.func124,Tryz.ntmps124
 go_wp2
 go_loopw [10] (fun iv wr=>∃ i:Nat,i<=m/\iv=.int .i64 (i:Int)/\Below w.heap.size w wr) (fun iv _=>m-(intOf iv).toNat)
 case atStart=>exact⟨0,Nat.zero_le _,rfl,Below.refl _ _⟩
 case round =>
  obtain⟨i,hi,rfl,hb⟩:=hrel
  have hin:i<X.n:=by omega
  have i1:(i:Int)<(X.n:Int):=by omega
  have hi64:(i:Int)<=64:=by omega
  have Hw:=H.out.below hb
  have c2:=Hw.c2
  have c3:=Hw.c3
  rw[hhd] at c3
  have hal:=at_lt hle hin
  have ra:=Hw.ra hal
  have f5:=Hw.f5 hal
  have hrem:=at_rem hle hin
  have hw1:IntKind.i64.wrap ((hd:Int)+(i:Int))=(hd:Int)+(i:Int):=by rw[IntKind.wrap_i64];omega
  have hn0:¬ ((X.n:Int)=0):=by omega
  have hai:((at_ hd X.n i:Nat):Int)<(X.n:Int):=by omega
  have HB:Hid (Below w.heap.size w wr):=hb
  clear hb Hw
  generalize hat:at_ hd X.n i=a at *
  have hai0:(0:Int)<=(a:Int):=by omega
  by_cases hz:(G.F a).pn=0
  ·rw[hz] at f5
   have HZ:Hid ((G.F a).pn=0):=hz
   have hal':Hid (a<X.n):=hal
   clear hz hat hal
   go_wp2
   go_quiet (fail)
   go_wp2
   go_ret
   exact⟨a,rfl,hal'.out,HZ.out,Sm.below_dr HB.out nq⟩
  ·have hzb:((G.F a).pn==0)=false:=by simpa using hz
   have hlt:Hid (i<m):=by
    have:i≠m:=fun e=>by subst e;rw[hat] at HP;exact hz HP.out
    exact(by omega:i<m)
   clear hz hat hal
   generalize (G.F a).pn=y at *
   go_wp2
   go_quiet (fail)
   go_wp2
   go_roundw
   case rel=>exact⟨i+1,hlt.out,by go_num,Sm.below_dr HB.out nq⟩
   case measure=>have:=hlt.out;simp[intOf];omega
set_option maxHeartbeats 1000000 in
theorem pick_none (h:PoIs B w X G) (hz:∀ j,j<X.n->(G.F j).pn≠0):Calls Tryz.prog 124 #[.pointer (some ⟨X.pb,0,none⟩)] w fun e w'=>e=.returned (.int .i64 (-1))/\Below w.heap.size w w':=by
 obtain⟨hd,hhd⟩:∃ hd:Nat,G.hd=(hd:Int):=⟨G.hd.toNat,by have:=h.h0;omega⟩
 have hle:hd<=X.n:=by have:=h.h1;omega
 have H:Hid (PoIs B w X G):=h
 have c2:=h.c2
 have hn2:=h.n2
 have hn1:=h.n1
 have HZ:Hid (∀ j,j<X.n->(G.F j).pn≠0):=hz
 clear h hz
 go_enter Tryz.func124,Tryz.ntmps124
 go_wp2
 go_loopw [10] (fun iv wr=>∃ i:Nat,i<=X.n/\iv=.int .i64 (i:Int)/\Below w.heap.size w wr) (fun iv _=>X.n-(intOf iv).toNat)
 case atStart=>exact⟨0,Nat.zero_le _,rfl,Below.refl _ _⟩
 case round =>
  obtain⟨i,hi,rfl,hb⟩:=hrel
  have HB:Hid (Below w.heap.size w wr):=hb
  by_cases hin:i<X.n
  ·have i1:(i:Int)<(X.n:Int):=by omega
   have hi64:(i:Int)<=64:=by omega
   have Hw:=H.out.below hb
   have c2:=Hw.c2
   have c3:=Hw.c3
   rw[hhd] at c3
   have hal:=at_lt hle hin
   have ra:=Hw.ra hal
   have f5:=Hw.f5 hal
   have hrem:=at_rem hle hin
   have hw1:IntKind.i64.wrap ((hd:Int)+(i:Int))=(hd:Int)+(i:Int):=by rw[IntKind.wrap_i64];omega
   have hn0:¬ ((X.n:Int)=0):=by omega
   have hai:((at_ hd X.n i:Nat):Int)<(X.n:Int):=by omega
   have hzb:((G.F (at_ hd X.n i)).pn==0)=false:=by simpa using HZ.out _ hal
   clear hb Hw hal
   generalize at_ hd X.n i=a at *
   have hai0:(0:Int)<=(a:Int):=by omega
   generalize (G.F a).pn=y at *
   go_wp2
   go_quiet (fail)
   go_wp2
   go_roundw
   case rel=>exact⟨i+1,hin,by go_num,Sm.below_dr HB.out nq⟩
   case measure=>simp[intOf];omega
  ·have i1:¬ (i:Int)<(X.n:Int):=by omega
   clear hin hb
   go_wp2
   go_ret
   exact⟨rfl,HB.out⟩
def pgA (id:Int) (t:ByteArray) (l:Int):Array Value:=#[.int .i64 id,.string t,.int .i64 l]
end
section
theorem info_pg:(Tryz.prog.info? 135).map (·.size)=some 3:=by kernel_rfl
end
section
variable {w:World}
theorem zero_pg (w:World):(zeroValue 135).run Tryz.prog w=.ok (.agg (pgA 0 ⟨#[]⟩ 0)) w:=by kernel_rfl
end
section
theorem one_pg (id:Int) (t:ByteArray) (l:Int):∀ v∈(pgA id t l).toList,v.oneCell'=true:=by
 intro v hv
 simp[pgA] at hv
 rcases hv with rfl |rfl |rfl <;> rfl
end
section
variable {w:World}
theorem results_pg2 {fn:Func} {p u:Tmp} (h:fn.results=#[.cell p 135,.tmp u]) (tmps:Array Value) (w:World) {b:Nat} {id l:Int} {t:ByteArray}
  (hp:tmps.getD p undef=.pointer (some ⟨b,0,none⟩)) (hg:w.heap[b]?=some (.cells (pgA id t l) 135)):(results fn tmps).run Tryz.prog w=.ok (.tuple #[.agg (pgA id t l),tmps.getD u undef]) w:=by
 have hl:=run_loadVar_row (P:=Tryz.prog) w b 135 135 (pgA id t l) (0,0) _ hg Tryz.underlying135 rfl info_pg
 have hp':tmps[p]?.getD undef=.pointer (some ⟨b,0,none⟩):=by simpa using hp
 simp only[results,h]
 simp[Sem.run_bind,Result.andThen,hp',asAddr,hl]
end
section
variable [Inhabited PrSet]{B k:Nat}{w w':World}{X:Ad}{G:Gp}{S S':Dk}{C:Cf}
theorem Ds.stwG {db sb:Nat} (h:Ds B w db k S) (hs:StIs w sb db C.bs C.ps C.gn) (hk:k<=800000000000) (hu:S.up=true) (hn:S.n=C.n) (hC:C.Ok) (id:Nat) (hid:id<C.ps) (t:ByteArray) (ht:t.size=224) (l:Nat) (hl:l<281474976710656) :
  Calls Tryz.prog 219 #[.pointer (some ⟨sb,0,none⟩),.int .i64 (id:Int),.string t,.int .i64 (l:Int)] w fun e w'=>∃ S' y,e=.returned (.int .i64 y)/\Ds B w' db (k+4) S'/\Kp isD B w w'/\Wrt S S' (nwK (C.bs+4*id) (sec C.gn l t) 4) y:=by
 obtain⟨lb,mb,m,h1,h2,h3,h4⟩:=h.dsk
 have hft:=hC.ft
 have hn2:=hC.n2
 refine(StWrite_good w hs h1 h.q (by omega) (by omega) (disk_ne h1 hs) (by omega) id hid hC.g2 t ht l hl).mono ?_
 rintro e w' ⟨he,hd,ho⟩
 obtain⟨q1,q2⟩:=h.turn h1 h3 h4 ho hd (show m+4<=k+4 by omega) (wrK_dq h.q (by omega) 4 (Nat.le_refl _))
 exact⟨_,_,he,q1,q2,wrK_wrt hu (by omega) (fun i hi=>by rw[sec_size ht hi];exact Nat.le_refl _) 4 (Nat.le_refl _)⟩
theorem Ds.stsG {db sb:Nat} (h:Ds B w db k S') (hs:StIs w sb db C.bs C.ps C.gn) (hk:k<=800000000000) {N:Nat->Option ByteArray} (hw:Wrt S S' N 0) :
  Calls Tryz.prog 220 #[.pointer (some ⟨sb,0,none⟩)] w fun e w'=>∃ S2 y,e=.returned (.int .i64 y)/\Ds B w' db (k+1) S2/\Kp isD B w w'/\Laid S S2 N y:=by
 obtain⟨lb,mb,m,h1,h2,h3,h4⟩:=h.dsk
 refine(StSync_any w hs h1 h.q.ok (by omega)).mono ?_
 rintro e w' ⟨he,hd,ho⟩
 obtain⟨q1,q2⟩:=h.turn h1 h3 h4 ho hd (show m<=k+1 by omega) (h.q.sync (by omega))
 exact⟨_,_,he,q1,q2,hw.sync⟩
theorem Ds.strdG {db sb:Nat} (h:Ds B w db k S) (hs:StIs w sb db C.bs C.ps C.gn) (hu:S.up=true) (hn:S.n=C.n) (hC:C.Ok) (id:Int):Calls Tryz.prog 181 #[.pointer (some ⟨sb,0,none⟩),.int .i64 id] w fun e w' =>
  e=.returned (.tuple #[.string (rdOut C.bs C.ps C.gn S id).1,.int .i64 (rdOut C.bs C.ps C.gn S id).2.1,.int .i64 (rdOut C.bs C.ps C.gn S id).2.2])/\Below w.heap.size w w':=by
 obtain⟨lb,mb,m,h1,h2,h3,h4⟩:=h.dsk
 exact StRead_any w hs h1 h.q.ok hu (by rw[hn];exact hC.ft) id
def rdP (C:Cf) (S:Dk) (id:Int):ByteArray × Int × Int:=if(rdOut C.bs C.ps C.gn S id).2.2=8∨(rdOut C.bs C.ps C.gn S id).2.2=10 then(⟨#[]⟩,0,0) else rdOut C.bs C.ps C.gn S id
set_option maxHeartbeats 1000000 in
theorem read_po (h:PoIs B w X G) (hd:Ds B w X.db k S) (hs:StIs w X.sb X.db C.bs C.ps C.gn) (hu:S.up=true) (hn:S.n=C.n) (hC:C.Ok) (id:Int):Calls Tryz.prog 123 #[.pointer (some ⟨X.pb,0,none⟩),.int .i64 id] w fun e w' =>
  e=.returned (.tuple #[.agg (pgA id (rdP C S id).1 (rdP C S id).2.1),.int .i64 (rdP C S id).2.2])/\Below w.heap.size w w':=by
 have CR:Hid (∀ wx,Below w.heap.size w wx->Calls Tryz.prog 181 #[.pointer (some ⟨X.sb,0,none⟩),.int .i64 id] wx fun e w' =>
  e=.returned (.tuple #[.string (rdOut C.bs C.ps C.gn S id).1,.int .i64 (rdOut C.bs C.ps C.gn S id).2.1,.int .i64 (rdOut C.bs C.ps C.gn S id).2.2])/\Below wx.heap.size wx w'):=fun wx hx=>(hd.below hx).strdG (hs.below hx) hu hn hC id
 have H:Hid (∀ wx,Below w.heap.size w wx->wx.cell? ⟨X.pb,0,none⟩=some (.pointer (some ⟨X.sb,0,none⟩))):=fun wx hx=>(h.below hx).c0
 have hb1:∀ W (i:Int),(Instr.build 135 #[(0,.int .i64 i)]).run Tryz.prog W=.ok (.agg (pgA i ⟨#[]⟩ 0)) W:=fun W i=>by kernel_rfl
 have hb2:∀ W (i l:Int) t,(Instr.build 135 #[(0,.int .i64 i),(1,.string t),(2,.int .i64 l)]).run Tryz.prog W=.ok (.agg (pgA i t l)) W:=fun W i l t=>by kernel_rfl
 unfold rdP
 generalize rdOut C.bs C.ps C.gn S id=R at *
 obtain⟨t,l,y⟩:=R
 dsimp only at *
 clear h hd hs
 by_cases h8:y=8
 ·subst h8
  go_enter Tryz.func123,Tryz.ntmps123
  go_wp2_with (first
   | (refine wpList_new_o _ rfl rfl (zero_pg _) ?_;intro w1 b1 N1;have c0:=H.out _ N1.below)
   | (go_at_call 181;refine(CR.out _ N1.below).mono ?_;rintro e w2 ⟨rfl,b2⟩;have p1:w2.heap[b1]?=some (.cells (pgA 0 ⟨#[]⟩ 0) 135):=(b2.block _ (lt_of_some N1.blk)).trans N1.blk)
   | (refine wpList_put_o (A':=pgA id ⟨#[]⟩ 0) _ rfl (.tmp 4) (.tmp 26) rfl rfl rfl p1 info_pg rfl (one_pg _ _ _) ?_;intro w3 P3))
  refine bodyPost_ret (results_pg2 rfl _ _ rfl P3.blk) rfl ?_
  have e1:=N1.eq
  have h2:=b2.size
  have h3:=lt_of_some N1.blk
  exact⟨rfl,(thn N1.below b2).trans (P3.off.below (fun k hk=>by omega) (by omega))⟩
 ·by_cases h10:y=10
  ·subst h10
   go_enter Tryz.func123,Tryz.ntmps123
   go_wp2_with (first
    | (refine wpList_new_o _ rfl rfl (zero_pg _) ?_;intro w1 b1 N1;have c0:=H.out _ N1.below)
    | (go_at_call 181;refine(CR.out _ N1.below).mono ?_;rintro e w2 ⟨rfl,b2⟩;have p1:w2.heap[b1]?=some (.cells (pgA 0 ⟨#[]⟩ 0) 135):=(b2.block _ (lt_of_some N1.blk)).trans N1.blk)
    | (refine wpList_put_o (A':=pgA id ⟨#[]⟩ 0) _ rfl (.tmp 4) (.tmp 26) rfl rfl rfl p1 info_pg rfl (one_pg _ _ _) ?_;intro w3 P3))
   refine bodyPost_ret (results_pg2 rfl _ _ rfl P3.blk) rfl ?_
   have e1:=N1.eq
   have h2:=b2.size
   have h3:=lt_of_some N1.blk
   exact⟨rfl,(thn N1.below b2).trans (P3.off.below (fun k hk=>by omega) (by omega))⟩
  ·have t1:(y==8)=false:=by simpa using h8
   have t2:(y==10)=false:=by simpa using h10
   rw[if_neg (by omega)]
   clear h8 h10
   go_enter Tryz.func123,Tryz.ntmps123
   go_wp2_with (first
    | (refine wpList_new_o _ rfl rfl (zero_pg _) ?_;intro w1 b1 N1;have c0:=H.out _ N1.below)
    | (go_at_call 181;refine(CR.out _ N1.below).mono ?_;rintro e w2 ⟨rfl,b2⟩;have p1:w2.heap[b1]?=some (.cells (pgA 0 ⟨#[]⟩ 0) 135):=(b2.block _ (lt_of_some N1.blk)).trans N1.blk)
    | (refine wpList_put_o (A':=pgA id t l) _ rfl (.tmp 4) (.tmp 30) rfl rfl rfl p1 info_pg rfl (one_pg _ _ _) ?_;intro w3 P3))
   refine bodyPost_ret (results_pg2 rfl _ _ rfl P3.blk) rfl ?_
   have e1:=N1.eq
   have h2:=b2.size
   have h3:=lt_of_some N1.blk
   exact⟨rfl,(thn N1.below b2).trans (P3.off.below (fun k hk=>by omega) (by omega))⟩
set_option maxHeartbeats 1000000 in
theorem write_po (h:PoIs B w X G) (hd:Ds B w X.db k S) (hs:StIs w X.sb X.db C.bs C.ps C.gn) (hk:k<=700000000000) (hu:S.up=true) (hn:S.n=C.n) (hC:C.Ok) (id:Nat) (hid:id<C.ps) (t:ByteArray) (ht:t.size=224) (l:Nat) (hl:l<281474976710656) :
  Calls Tryz.prog 183 #[.pointer (some ⟨X.pb,0,none⟩),.agg (pgA (id:Int) t (l:Int))] w fun e w'=>∃ S' y,e=.returned (.int .i64 y)/\Ds B w' X.db (k+5) S'/\Kp isD B w w'/\Laid S S' (nwK (C.bs+4*id) (sec C.gn l t) 4) y:=by
 have CW:Hid (∀ wx,Below w.heap.size w wx->Calls Tryz.prog 219 #[.pointer (some ⟨X.sb,0,none⟩),.int .i64 (id:Int),.string t,.int .i64 (l:Int)] wx fun e w'=>∃ S' y,e=.returned (.int .i64 y)/\Ds B w' X.db (k+4) S'/\Kp isD B wx w'/\Wrt S S' (nwK (C.bs+4*id) (sec C.gn l t) 4) y):=fun wx hx=>(hd.below hx).stwG (hs.below hx) (by omega) hu hn hC id hid t ht l hl
 have CS:Hid (∀ wx S1 (y:Int),(y !=0)=false->StIs wx X.sb X.db C.bs C.ps C.gn->Ds B wx X.db (k+4) S1->Wrt S S1 (nwK (C.bs+4*id) (sec C.gn l t) 4) y->Calls Tryz.prog 220 #[.pointer (some ⟨X.sb,0,none⟩)] wx fun e w'=>∃ S2 y,e=.returned (.int .i64 y)/\Ds B w' X.db (k+5) S2/\Kp isD B wx w'/\Laid S S2 (nwK (C.bs+4*id) (sec C.gn l t) 4) y):=fun wx S1 y hy q1 q2 q3=>by
  obtain rfl:y=0:=by simpa using hy
  exact q2.stsG q1 (by omega) q3
 have HC:Hid (∀ wx,Below w.heap.size w wx->wx.cell? ⟨X.pb,0,none⟩=some (.pointer (some ⟨X.sb,0,none⟩))/\X.pb<wx.heap.size):=fun wx hx=>⟨(h.below hx).c0,(h.below hx).lt⟩
 have HP:Hid (∀ wx w2,Below w.heap.size w wx->Kp isA B wx w2->w2.cell? ⟨X.pb,0,none⟩=some (.pointer (some ⟨X.sb,0,none⟩))):=fun wx w2 hx hk2=>((h.below hx).kept hk2).c0
 have HS:Hid (∀ wx w2,Below w.heap.size w wx->Kp isD B wx w2->StIs w2 X.sb X.db C.bs C.ps C.gn/\w2.cell? ⟨X.pb,0,none⟩=some (.pointer (some ⟨X.sb,0,none⟩))):=fun wx w2 hx hk2=>⟨(hs.below hx).kept hk2.d.q,((h.below hx).kept hk2.d).c0⟩
 have hle:=hd.lt
 clear h hd hs hk hid hl
 generalize nwK (C.bs+4*id) (sec C.gn l t) 4=N at *
 generalize (id:Int)=idI at *
 generalize (l:Int)=lI at *
 clear ht
 go_enter Tryz.func183,Tryz.ntmps183
 go_wp2_with (first
  | (refine wpList_box_o (A:=pgA idI t lI) _ rfl _ rfl rfl ?_;intro w1 b1 N1))
 have HN:Hid (∀ wx,Kp isA B w1 wx->B<=w1.heap.size->wx.cell? ⟨X.pb,0,none⟩=some (.pointer (some ⟨X.sb,0,none⟩))/\wx.cell? ⟨b1,0,none⟩=some (.int .i64 idI)/\wx.cell? ⟨b1,1,none⟩=some (.string t)/\wx.cell? ⟨b1,2,none⟩=some (.int .i64 lI)):=fun wx hx hB=>by
  have e:=hx.block _ _ N1.blk (by simp[isA,isD,isL])
  exact⟨HP.out _ _ N1.below hx,Joins.cell_of_block e 0,Joins.cell_of_block e 1,Joins.cell_of_block e 2⟩
 have hB1:Hid (B<=w1.heap.size):=Nat.le_trans hle N1.below.size
 have bd:Hid (Below w.heap.size w w1.drew):=N1.below.drew
 have kd:=HN.out w1.drew (Kp.of_below ((Below.refl _ _).drew) hB1.out) hB1.out
 have q0:=kd.1
 have q1:=kd.2.1
 have q2:=kd.2.2.1
 have q3:=kd.2.2.2
 have HD1:Hid (Below w1.heap.size w1 w1.drew):=(Below.refl _ _).drew
 clear kd
 go_region_held3 (fun W=>W.cell? ⟨X.pb,0,none⟩=some (.pointer (some ⟨X.sb,0,none⟩))/\W.cell? ⟨b1,0,none⟩=some (.int .i64 idI)/\W.cell? ⟨b1,1,none⟩=some (.string t)/\W.cell? ⟨b1,2,none⟩=some (.int .i64 lI)) (first |exact⟨keep1,keep2,keep3,keep4⟩ |exact⟨q0,q1,q2,q3⟩ |go_keep) (first
  | (go_at_call 219;refine(CW.out _ bd.out).mono ?_;rintro e w2 ⟨S1,y,rfl,D2,k2,W2⟩;have K2:Hid (Kp isA B w1 w2):=(Kp.of_below HD1.out hB1.out).trans k2.d;have kk:=HN.out _ K2.out hB1.out;have keep1:=kk.1;have keep2:=kk.2.1;have keep3:=kk.2.2.1;have keep4:=kk.2.2.2;clear kk;have HS2:Hid (StIs w2 X.sb X.db C.bs C.ps C.gn):=(HS.out _ _ bd.out k2).1;have HD2:Hid (Ds B w2 X.db (k+4) S1):=D2;have HW2:Hid (Wrt S S1 N y):=W2;have HK2:Hid (Kp isD B w w2):=(Kp.of_below bd.out hle).trans k2;clear D2 k2 W2))
 by_cases he:y=0
 ·subst he
  go_wp2_with (go_at_call 220;refine(CS.out _ _ _ rfl HS2.out HD2.out HW2.out).mono ?_;rintro e w3 ⟨S3,z,rfl,D3,k3,L3⟩)
  go_ret
  exact⟨S3,z,rfl,D3,HK2.out.trans k3,L3⟩
 ·have heb:(y !=0)=true:=by simpa using he
  go_wp2
  go_ret
  exact⟨S1,y,rfl,HD2.out.mono (by omega),HK2.out,HW2.out.laid he⟩
end
def pgw (G:Gp) (st pg:Nat->Option Nat) (ds:List Nat) (id:Nat):Option Nat:=if ds.any (fun j=>(G.F j).id==(id:Int)) then st id else pg id
def Fm.cl (f:Fm):Fm:={f with si:=0}
def cln (G:Gp) (ds:List Nat):Gp:={G with F:=fun j=>if j∈ds then(G.F j).cl else G.F j}
structure Dj (C:Cf) (G:Gp) (st:Nat->Option Nat) (j:Nat):Prop where
 ex:∃ id r,id<C.ps/\(G.F j).id=((id:Nat):Int)/\st id=some r/\(1<=r/\r<=(cat C.fs).size/\C.lo id<=r)/\(G.F j).tx=C.T id r/\(G.F j).ln=lnO (some r)
section
variable {G:Gp}{st pg:Nat->Option Nat}
theorem pgw_nil:pgw G st pg []=pg:=by funext id;simp[pgw]
end
section
variable {G:Gp}{st pg:Nat->Option Nat}{ds:List Nat}
theorem pgw_snoc (j:Nat) (id:Nat):pgw G st pg (ds++[j]) id=if(G.F j).id=(id:Int) then st id else pgw G st pg ds id:=by
 unfold pgw
 rw[List.any_append]
 by_cases h:(G.F j).id=(id:Int)
 ·rw[if_pos h,if_pos (by simp[h])]
 ·rw[if_neg h]
  have:([j].any fun j=>(G.F j).id==(id:Int))=false:=by simp[h]
  rw[this,Bool.or_false]
end
section
variable {G:Gp}
theorem cln_nil:cln G []=G:=by unfold cln;simp
end
section
variable {i:Nat}{G:Gp}{ds:List Nat}
theorem cln_snoc (j:Nat):(cln G ds).set j ((cln G ds).F j).cl=cln G (ds++[j]):=by
 unfold Gp.set cln
 congr 1
 funext i
 unfold upd
 by_cases h:i=j
 ·subst h
  rw[if_pos rfl,if_pos (by simp)]
  by_cases hi:i∈ds
  ·dsimp only;rw[if_pos hi];rfl
  ·dsimp only;rw[if_neg hi]
 ·rw[if_neg h]
  by_cases hi:i∈ds
  ·dsimp only;rw[if_pos hi,if_pos (by simp[hi])]
  ·dsimp only;rw[if_neg hi,if_neg (by simp[hi,h])]
end
section
variable [Inhabited PrSet]{B k k' db sb sure sure1 m i:Nat}{w w' wr:World}{S S' S1 S2:Dk}{X:Ad}{G:Gp}{C:Cf}{st pg:Nat->Option Nat}{ds:List Nat}
theorem Lo.mono (h:Lo B w db sb k S C m) (hk:k<=k'):Lo B w db sb k' S C m:=⟨h.d.mono hk,h.st,h.wt,h.all,h.n,h.up,h.ok,h.fit,h.hm⟩
structure Ls (B:Nat) (w w':World) (X:Ad) (k:Nat) (S:Dk) (C:Cf):Prop where
 ex:∃ S' m,Lo B w' X.db X.sb k S' C m
 set:S.set=true
 kp:Kp isQ B w w'
structure Sv1 (B:Nat) (w wr:World) (X:Ad) (k:Nat) (S S1:Dk) (C:Cf) (sure sure1:Nat) (G:Gp) (st pg:Nat->Option Nat) (ds:List Nat) (i:Nat):Prop where
 q:Pq B wr X (k+8001*i) S1 C sure1 G
 p:Sp S1 C sure1 pg
 le:off C.fs sure<=off C.fs sure1
 rc:∀ j∈ds.take i,∀ id r,(G.F j).id=((id:Nat):Int)->st id=some r->r<=off C.fs sure1
 cm:S.set=false->S1.set=false
 kp:Kp isA B w wr
structure Sv2 (B:Nat) (w wr:World) (X:Ad) (k:Nat) (S S1:Dk) (C:Cf) (sure1:Nat) (G:Gp) (st pg:Nat->Option Nat) (ds:List Nat) (i:Nat):Prop where
 q:Pq B wr X (k+5*i) S1 C sure1 G
 p:Sp S1 C sure1 (pgw G st pg (ds.take i))
 cm:S.set=false->S1.set=false
 kp:Kp isA B w wr
structure Sv3 (B:Nat) (w wr:World) (X:Ad) (k:Nat) (S1:Dk) (C:Cf) (sure1:Nat) (G:Gp) (ds:List Nat) (i:Nat):Prop where
 q:Pq B wr X k S1 C sure1 (cln G (ds.take i))
 kp:Kp isQ B w wr
theorem Sv1.need (h:Sv1 B w wr X k S S1 C sure sure1 G st pg ds i) (hk:k+8001*i<=300000000000) (hi:i<ds.length) (hD:Dj C G st ds[i]) (hb:Below wr.heap.size wr w'):Calls Tryz.prog 182 #[.pointer (some ⟨X.l,0,none⟩),.int .i64 (G.F ds[i]).ln] w' fun e w'=>∃ y,e=.returned (.int .i64 y)/\(y=0->∃ S2 sure2,Sv1 B w w' X k S S2 C sure sure2 G st pg ds (i+1))/\(y≠0->y=9/\Ls B w w' X (k+8001*(i+1)) S C)/\Kp isA B wr w':=by
 obtain⟨id,r,h1,h2,h3,h4,h5,h6⟩:=hD.ex
 rw[h6]
 have hle:=h.q.le
 refine((h.q.below hb).need h.p hk r h4.2.1).mono ?_
 rintro e w2 ⟨y,he,hK,S2,sure2,hc,hor⟩
 have hK2:Kp isA B wr w2:=(Kp.of_below hb hle).trans hK
 refine⟨y,he,fun hy=>?_,fun hy=>?_,hK2⟩
 ·rcases hor with⟨_,q1,q2,q3,q4⟩ |⟨h9,_⟩
  ·refine⟨S2,sure2,q1,q2,by have:=h.le;omega,fun j hj id' r' e1 e2=>?_,fun hs=>(hc (h.cm hs)).2,h.kp.trans hK2⟩
   rw[List.take_succ_eq_append_getElem hi] at hj
   rcases List.mem_append.1 hj with hj |hj
   ·have:=h.rc j hj id' r' e1 e2;omega
   ·rw[List.mem_singleton] at hj
    subst hj
    rw[h2] at e1
    have:id'=id:=by omega
    subst this
    rw[h3] at e2
    cases e2
    exact q4
  ·omega
 ·rcases hor with⟨h0,_⟩ |⟨h9,hL⟩
  ·exact absurd h0 hy
  ·refine⟨h9,⟨_,_,hL⟩,?_,(h.kp.trans hK2).q⟩
   cases hs:S.set with
   | true=>rfl
   | false=>exact absurd (hc (h.cm hs)).1 hy
theorem Sv2.write (h:Sv2 B w wr X k S S1 C sure1 G st pg ds i) (hk:k+5*i<=600000000000) (hi:i<ds.length) (hD:Dj C G st ds[i]) (hrc:∀ id r,(G.F ds[i]).id=((id:Nat):Int)->st id=some r->r<=off C.fs sure1):Calls Tryz.prog 183 #[.pointer (some ⟨X.pb,0,none⟩),.agg (pgA (G.F ds[i]).id (G.F ds[i]).tx (G.F ds[i]).ln)] wr fun e w'=>∃ y,e=.returned (.int .i64 y)/\(y=0->∃ S2,Sv2 B w w' X k S S2 C sure1 G st pg ds (i+1))/\(y≠0->y=9/\Ls B w w' X (k+5*(i+1)) S C)/\Kp isA B wr w':=by
 obtain⟨id,r,h1,h2,h3,h4,h5,h6⟩:=hD.ex
 have hr:=hrc id r h2 h3
 have hq:=h.q
 have hcz:=hq.cz
 have hok:=hq.ok
 have hft:=hok.ft
 have hap:=hok.ap
 have hz:(C.T id r).size=224:=hok.tz id r
 rw[h2,h5,h6]
 have e6:lnO (some r)=((r:Nat):Int):=rfl
 rw[e6]
 refine(write_po hq.po hq.ds hq.st (by omega) hq.lv.up hq.n hok id h1 (C.T id r) hz r (by omega)).mono ?_
 rintro e w2 ⟨S2,y,he,hd,hK,hL⟩
 have hN:∀ i c,nwK (C.bs+4*id) (sec C.gn r (C.T id r)) 4 i=some c->(C.bs<=i/\i<C.bs+4*C.ps)/\∃ q,q<4/\i=C.bs+4*id+q/\c=sec C.gn r (C.T id r) q:=fun i c hc=>by
  unfold nwK at hc
  split at hc
  ·rename_i hb
   injection hc with hc
   refine⟨by omega,i-(C.bs+4*id),by omega,by omega,?_⟩
   rw[← hc,pad_self (sec_size hz (by omega))]
  ·cases hc
 have hout:∀ i c,nwK (C.bs+4*id) (sec C.gn r (C.T id r)) 4 i=some c->i<C.lb∨C.lb+C.sc<=i:=fun i c hc=>by
  have:=(hN i c hc).1
  omega
 refine⟨y,he,fun hy=>?_,fun hy=>?_,hK.d⟩
 ·subst hy
  obtain⟨hu,hw,hsu⟩:=hL.ok rfl
  refine⟨S2,⟨hq.lv.laid hL hout hd hK,hq.st.kept hK.d.q,hq.po.kept hK.d,by rw[hL.n];exact hq.n,hok⟩,?_,fun hs=>(hL.calm (h.cm hs)).2,h.kp.trans hK.d⟩
  rw[List.take_succ_eq_append_getElem hi]
  have hnow:∀ i,S2.now i=(nwK (C.bs+4*id) (sec C.gn r (C.T id r)) 4 i).getD (S1.now i):=fun i=>by
   unfold Dk.now
   rw[hw]
   show S2.sure _=_
   rw[hsu]
   rfl
  have hin:∀ q,q<4->S2.now (C.bs+4*id+q)=sec C.gn r (C.T id r) q:=fun q hq4=>by
   have:nwK (C.bs+4*id) (sec C.gn r (C.T id r)) 4 (C.bs+4*id+q)=some (sec C.gn r (C.T id r) q):=by
    unfold nwK
    rw[if_pos (by omega),Nat.add_sub_cancel_left,pad_self (sec_size hz hq4)]
   rw[hnow,this];rfl
  have hoth:∀ id' q,id'<C.ps->q<4->id≠id'->S2.now (C.bs+4*id'+q)=S1.now (C.bs+4*id'+q):=fun id' q a1 a2 hne=>by
   have:nwK (C.bs+4*id) (sec C.gn r (C.T id r)) 4 (C.bs+4*id'+q)=none:=by
    unfold nwK;rw[if_neg (by omega)]
   rw[hnow,this];rfl
  refine⟨fun id' q a1 a2=>?_,fun id' l a1 a2=>?_,fun id' a1 a2=>?_,fun id' r' a1 a2=>?_⟩
  ·by_cases hid:id=id'
   ·subst hid
    rw[hin q a2]
    exact Or.inr ⟨r,h4.1,h4.2.2,hr,rfl⟩
   ·rw[hoth id' q a1 a2 hid]
    exact h.p.all id' q a1 a2
  ·rw[pgw_snoc,h2] at a2
   by_cases hid:id=id'
   ·subst hid
    rw[if_pos rfl,h3] at a2
    cases a2
    exact rdV_whole hok.g2 (by omega) hz hin
   ·rw[if_neg (by omega)] at a2
    rw[← h.p.rd1 id' l a1 a2]
    exact rdV_congr (fun i hi=>hoth id' i a1 hi hid)
  ·rw[pgw_snoc,h2] at a2
   by_cases hid:id=id'
   ·subst hid
    rw[if_pos rfl,h3] at a2
    cases a2
   ·rw[if_neg (by omega)] at a2
    obtain⟨t,l,e,e1,e2⟩:=h.p.rd0 id' a1 a2
    exact⟨t,l,e,by rw[← e1];exact rdV_congr (fun i hi=>hoth id' i a1 hi hid),e2⟩
  ·rw[pgw_snoc,h2] at a2
   by_cases hid:id=id'
   ·subst hid
    rw[if_pos rfl] at a2
    rw[h3] at a2
    cases a2
    exact⟨h4.1,hr⟩
   ·rw[if_neg (by omega)] at a2
    exact h.p.lt id' r' a1 a2
 ·refine⟨(hL.bad hy).1,⟨S2,sure1,hd.mono (by omega),hq.st.kept hK.d.q,hq.lv.wt.laid hL hy hout,hL.all _ (h.p.allR hq.lv.nowait) (fun i c hc id' q a1 a2 e=>?_),by rw[hL.n];exact hq.n,(hL.bad hy).2.1,hok,hq.lv.fit,hq.sl⟩,?_,(h.kp.trans hK.d).q⟩
  ·obtain⟨_,q',b1,b2,b3⟩:=hN i c hc
   obtain rfl:id'=id:=by omega
   obtain rfl:q'=q:=by omega
   exact Or.inr ⟨r,h4.1,h4.2.2,hr,b3⟩
  ·cases hs:S.set with
   | true=>rfl
   | false=>exact absurd (hL.calm (h.cm hs)).1 hy
theorem Sv3.step (h:Sv3 B w wr X k S1 C sure1 G ds i) (hi:i<ds.length) (hn:ds[i]<X.n):Sv3 B w (wr.setCell ⟨X.fb ds[i],4,none⟩ (.int .i64 0)) X k S1 C sure1 G ds (i+1):=by
 have hp:=h.q.po.setF (j:=ds[i]) hn (f:=((cln G (ds.take i)).F ds[i]).cl) (i:=4) (u:=.int .i64 0) rfl h.q.le
 have hq:=h.q.turn hp
 rw[cln_snoc,← List.take_succ_eq_append_getElem hi] at hq
 exact⟨hq,h.kp.trans hp.2.f⟩
end
structure SvO [Inhabited PrSet] (B:Nat) (w w':World) (X:Ad) (k:Nat) (S:Dk) (C:Cf) (sure:Nat) (G:Gp) (st pg:Nat->Option Nat) (js ds:List Nat) (S':Dk) (sure':Nat) (sv:Int):Prop where
 perm:ds.Perm (js.filter (dty G))
 q:Pq B w' X k S' C sure' {cln G ds with sv:=sv}
 p:Sp S' C sure' (pgw G st pg ds)
 le:off C.fs sure<=off C.fs sure'
 cm:S.set=false->S'.set=false
 kp:Kp isQ B w w'
section
variable [Inhabited PrSet]{B k sure sure1 i:Nat}{w w' wr:World}{S S' S1 S2:Dk}{X:Ad}{G:Gp}{C:Cf}{st pg:Nat->Option Nat}{ds js:List Nat}{a:Option Addr}
theorem wpList_load_pg {ops:Array Oper} {rest:List Oper} {o:Oper} {act:Act} {Q:Exit->Act->World->Prop} {j:Nat} (w:World) (hg:o.guard=none) (x:Operand) (hop:o.op=Op.load 135 x) (hx:act.eval x=.pointer (some ⟨X.fb j,0,none⟩)) (hp:PoIs B w X G) (hj:j<X.n)
  (h:wpList Tryz.prog ops Q rest (act.put o.dst (.agg (pgA (G.F j).id (G.F j).tx (G.F j).ln))) w):wpList Tryz.prog ops Q (o ::rest) act w:=by
 refine wpList_load_mid hg 135 x hop (X.fb j) 0 hx ((pgA (G.F j).id (G.F j).tx (G.F j).ln).toList) _ (fun i u hu=>?_) Tryz.underlying135 rfl info_pg h
 have hi:i<3:=by
  have:=(List.getElem?_eq_some_iff.1 hu).1
  simpa[pgA] using this
 rw[Nat.zero_add]
 have:i=0∨i=1∨i=2:=by omega
 rcases this with rfl |rfl |rfl
 ·simp[pgA] at hu;subst hu;exact hp.f0 hj
 ·simp[pgA] at hu;subst hu;exact hp.f1 hj
 ·simp[pgA] at hu;subst hu;exact hp.f2 hj
set_option maxHeartbeats 8000000 in
theorem save_po (h:Pq B w X k S C sure G) (hp:Sp S C sure pg) (hk:k+8006*js.length<=300000000000) (hps:Ps w X a js) (hl:js.length<=64) (c:Nat) (hD:∀ j∈js,dty G j=true->Dj C G st j) :
  Calls Tryz.prog 125 #[.pointer (some ⟨X.pb,0,none⟩),.slice a js.length c] w fun e w'=>∃ y,e=.returned (.int .i64 y)/\(y=0->∃ ds S' sure' sv,SvO B w w' X (k+8006*js.length) S C sure G st pg js ds S' sure' sv)/\(y≠0->y=9/\Ls B w w' X (k+8006*js.length) S C):=by
 have CD:Hid (Calls Tryz.prog 91 #[.slice a js.length c] w fun e w'=>∃ a' c' ds,Dl w w' X G js e a' c' ds):=dirtyOf_po h.po hps hl c
 have H:Hid (Pq B w X k S C sure G):=h
 have HP:Hid (Sp S C sure pg):=hp
 have HD:Hid (∀ j∈js,dty G j=true->Dj C G st j):=hD
 have hle:=h.le
 clear h hp hps hD
 go_enter Tryz.func125,Tryz.ntmps125
 go_wp2_with (go_at_call 91;refine CD.out.mono ?_;rintro e w1 ⟨a1,c1,ds,D1⟩;have he:=D1.e;subst he)
 have hlen:ds.length<=js.length:=by
  have h1:=D1.perm.length_eq
  have h2:=List.length_filter_le (dty G) js
  omega
 have hds:Hid (∀ j∈ds,j<X.n/\Dj C G st j):=fun j hj=>by
  have h1:=D1.perm.subset hj
  have h2:=List.mem_filter.1 h1
  obtain⟨i,hi,rfl⟩:=List.getElem_of_mem hj
  exact⟨(D1.ps.at_ i hi).1,HD.out _ h2.1 h2.2⟩
 have hb1:=D1.below
 have P1:Hid (Ps w1 X a1 ds):=D1.ps
 have PM:Hid (ds.Perm (js.filter (dty G))):=D1.perm
 have S0:Hid (Sv1 B w w1 X k S S C sure sure G st pg ds 0):=⟨H.out.below hb1,HP.out,Nat.le_refl _,fun j hj=>by simp at hj,fun h=>h,Kp.of_below hb1 hle⟩
 have HK1:Hid (Kp isA B w w1):=Kp.of_below hb1 hle
 clear D1 hb1 CD
 go_wp2
 go_loopw [18] (fun iv wr=>∃ (i:Nat) (S1:Dk) (sure1:Nat),i<=ds.length/\iv=.int .i64 (i:Int)/\Sv1 B w wr X k S S1 C sure sure1 G st pg ds i/\Kp isA B w1 wr) (fun iv _=>ds.length-(intOf iv).toNat)
 case atStart=>exact⟨0,S,sure,Nat.zero_le _,rfl,S0.out,Kp.refl _ _ _⟩
 case round =>
  obtain⟨i,S1,sure1,hi,rfl,hS1,hK⟩:=hrel
  have HS1:Hid (Sv1 B w wr X k S S1 C sure sure1 G st pg ds i):=hS1
  have HK:Hid (Kp isA B w1 wr):=hK
  clear hS1 hK
  by_cases hlt:i<ds.length
  ·have i1:(i:Int)<(ds.length:Int):=by omega
   have i64:(i:Int)<=64:=by omega
   obtain⟨hjn,g,hga,_,_,hgc⟩:=(P1.out.kept HK.out.q).at_ i hlt
   subst hga
   have hDj:=(hds.out ds[i] (List.getElem_mem hlt)).2
   have CN:Hid (∀ wx,Below wr.heap.size wr wx->Calls Tryz.prog 182 #[.pointer (some ⟨X.l,0,none⟩),.int .i64 (G.F ds[i]).ln] wx fun e w'=>∃ y,e=.returned (.int .i64 y)/\(y=0->∃ S2 sure2,Sv1 B w w' X k S S2 C sure sure2 G st pg ds (i+1))/\(y≠0->y=9/\Ls B w w' X (k+8001*(i+1)) S C)/\Kp isA B wr w'):=fun wx hx=>HS1.out.need (by omega) hlt hDj hx
   have HC:Hid (∀ wx,Kp isA B wr wx->wx.cell? ⟨X.pb,1,none⟩=some (.pointer (some ⟨X.l,0,none⟩))/\wx.cell? ⟨X.fb ds[i],2,none⟩=some (.int .i64 (G.F ds[i]).ln)):=fun wx hx=>⟨(HS1.out.q.po.kept hx).c1,(HS1.out.q.po.kept hx).f2 hjn⟩
   have hrefl:Hid (Kp isA B wr wr):=Kp.refl _ _ _
   have hwB:Hid (B<=wr.heap.size):=HS1.out.q.le
   unfold ptF at hgc
   generalize (G.F ds[i]).ln=ln at *
   generalize X.fb ds[i]=fb at *
   go_wp2
   have q1:=(HC.out wr hrefl.out).1
   have q2:=(HC.out wr hrefl.out).2
   have kd:=HC.out wr.drew (Kp.of_below ((Below.refl _ _).drew) hwB.out)
   have q3:=kd.1
   have q4:=kd.2
   have bd:Hid (Below wr.heap.size wr wr.drew):=(Below.refl _ _).drew
   clear kd
   go_region_held3 (fun W=>W.cell? ⟨X.pb,1,none⟩=some (.pointer (some ⟨X.l,0,none⟩))/\W.cell? ⟨fb,2,none⟩=some (.int .i64 ln)) (first |exact⟨keep1,keep2⟩ |exact⟨q3,q4⟩ |go_keep) (first
    | (go_at_call 182;refine(CN.out _ bd.out).mono ?_;rintro e wB ⟨y,rfl,hy0,hy9,hKB⟩;have HY0:Hid (y=0->∃ S2 sure2,Sv1 B w wB X k S S2 C sure sure2 G st pg ds (i+1)):=hy0;have HY9:Hid (y≠0->y=9/\Ls B w wB X (k+8001*(i+1)) S C):=hy9;have HKB:Hid (Kp isA B wr wB):=hKB;have keep1:=(HC.out _ hKB).1;have keep2:=(HC.out _ hKB).2;clear hy0 hy9 hKB))
   by_cases he:y=0
   ·subst he
    obtain⟨S2,sure2,hS2⟩:=HY0.out rfl
    have HS2:Hid (Sv1 B w wB X k S S2 C sure sure2 G st pg ds (i+1)):=hS2
    clear hS2
    go_wp2
    go_roundw
    case rel=>exact⟨i+1,S2,sure2,hlt,by go_num,HS2.out,HK.out.trans HKB.out⟩
    case measure=>simp[intOf];omega
   ·have heb:(y !=0)=true:=by simpa using he
    obtain⟨h9,hLs⟩:=HY9.out he
    have HLs:Hid (Ls B w wB X (k+8001*(i+1)) S C):=hLs
    have H9:Hid (y=9):=h9
    clear hLs h9
    go_wp2
    go_ret
    refine⟨y,rfl,fun e=>absurd e he,fun _=>⟨H9.out,?_⟩⟩
    obtain⟨⟨S3,m3,hLo⟩,hset,hkp⟩:=HLs.out
    exact⟨⟨S3,m3,hLo.mono (by omega)⟩,hset,hkp⟩
  ·obtain rfl:i=ds.length:=by omega
   have i1:¬ (ds.length:Int)<(ds.length:Int):=by omega
   clear hlt hi
   have T0:Hid (Sv2 B w wr X (k+8001*ds.length) S S1 C sure1 G st pg ds 0):=⟨HS1.out.q,by rw[List.take_zero,pgw_nil];exact HS1.out.p,HS1.out.cm,HS1.out.kp⟩
   have hsu:Hid (off C.fs sure<=off C.fs sure1):=HS1.out.le
   have hrc:Hid (∀ j∈ds,∀ id r,(G.F j).id=((id:Nat):Int)->st id=some r->r<=off C.fs sure1):=by
    have:=HS1.out.rc
    rw[List.take_length] at this
    exact this
   have P2:Hid (Ps wr X a1 ds):=P1.out.kept HK.out.q
   have hwB:Hid (B<=wr.heap.size):=T0.out.q.le
   clear HS1 HK HK1 P1 S0
   generalize wr=w2 at *
   go_wp2
   go_loopw [38] (fun iv wq=>∃ (i:Nat) (S2:Dk),i<=ds.length/\iv=.int .i64 (i:Int)/\Sv2 B w wq X (k+8001*ds.length) S S2 C sure1 G st pg ds i/\Kp isA B w2 wq) (fun iv _=>ds.length-(intOf iv).toNat)
   case atStart=>exact⟨0,S1,Nat.zero_le _,rfl,T0.out,Kp.refl _ _ _⟩
   case round =>
    obtain⟨i,S2,hi,rfl,hS2,hK2⟩:=hrel
    have HS2:Hid (Sv2 B w wr X (k+8001*ds.length) S S2 C sure1 G st pg ds i):=hS2
    have HK2:Hid (Kp isA B w2 wr):=hK2
    clear hS2 hK2
    by_cases hlt:i<ds.length
    ·have i1:(i:Int)<(ds.length:Int):=by omega
     have i64:(i:Int)<=64:=by omega
     obtain⟨hjn,g,hga,_,_,hgc⟩:=(P2.out.kept HK2.out.q).at_ i hlt
     subst hga
     have hDj:=(hds.out ds[i] (List.getElem_mem hlt)).2
     have CW:Hid (Calls Tryz.prog 183 #[.pointer (some ⟨X.pb,0,none⟩),.agg (pgA (G.F ds[i]).id (G.F ds[i]).tx (G.F ds[i]).ln)] wr fun e w'=>∃ y,e=.returned (.int .i64 y)/\(y=0->∃ S3,Sv2 B w w' X (k+8001*ds.length) S S3 C sure1 G st pg ds (i+1))/\(y≠0->y=9/\Ls B w w' X (k+8001*ds.length+5*(i+1)) S C)/\Kp isA B wr w'):=HS2.out.write (by omega) hlt hDj (hrc.out _ (List.getElem_mem hlt))
     have HPo:Hid (PoIs B wr X G):=HS2.out.q.po
     have hjH:Hid (ds[i]<X.n):=hjn
     clear hjn hDj
     unfold ptF at hgc
     generalize ds[i]=j at *
     go_wp2_with (first
      | (refine wpList_load_pg (B:=B) (X:=X) (G:=G) (j:=j) _ rfl _ rfl rfl HPo.out hjH.out ?_)
      | (go_at_call 183;refine CW.out.mono ?_;rintro e wB ⟨y,rfl,hy0,hy9,hKB⟩;have HY0:Hid (y=0->∃ S3,Sv2 B w wB X (k+8001*ds.length) S S3 C sure1 G st pg ds (i+1)):=hy0;have HY9:Hid (y≠0->y=9/\Ls B w wB X (k+8001*ds.length+5*(i+1)) S C):=hy9;have HKB:Hid (Kp isA B wr wB):=hKB;clear hy0 hy9 hKB))
     ·have he:y≠0:=by simpa using ‹(y !=0)=true›
      obtain⟨h9,hLs⟩:=HY9.out he
      go_ret
      refine⟨y,rfl,fun e=>absurd e he,fun _=>⟨h9,?_⟩⟩
      obtain⟨⟨S3,m3,hLo⟩,hset,hkp⟩:=hLs
      exact⟨⟨S3,m3,hLo.mono (by omega)⟩,hset,hkp⟩
     ·have he:y=0:=by simpa using ‹(y !=0)=false›
      obtain⟨S3,hS3⟩:=HY0.out he
      go_roundw
      case rel=>exact⟨i+1,S3,hlt,by go_num,hS3,HK2.out.trans HKB.out⟩
      case measure=>simp[intOf];omega
    ·obtain rfl:i=ds.length:=by omega
     have i1:¬ (ds.length:Int)<(ds.length:Int):=by omega
     clear hlt hi
     have U0:Hid (Sv3 B w wr X (k+8006*js.length) S2 C sure1 G ds 0):=⟨by rw[List.take_zero,cln_nil];exact HS2.out.q.mono (by omega),HS2.out.kp.q⟩
     have HSp:Hid (Sp S2 C sure1 (pgw G st pg ds)):=by
      have:=HS2.out.p
      rw[List.take_length] at this
      exact this
     have HCm:Hid (S.set=false->S2.set=false):=HS2.out.cm
     have P3:Hid (Ps wr X a1 ds):=P2.out.kept HK2.out.q
     clear HS2 HK2 P2 T0 hwB
     generalize wr=w3 at *
     go_wp2
     go_loopw [54] (fun iv wq=>∃ (i:Nat),i<=ds.length/\iv=.int .i64 (i:Int)/\Sv3 B w wq X (k+8006*js.length) S2 C sure1 G ds i/\Kp isQ B w3 wq) (fun iv _=>ds.length-(intOf iv).toNat)
     case atStart=>exact⟨0,Nat.zero_le _,rfl,U0.out,Kp.refl _ _ _⟩
     case round =>
      obtain⟨i,hi,rfl,hS3,hK3⟩:=hrel
      have HS3:Hid (Sv3 B w wr X (k+8006*js.length) S2 C sure1 G ds i):=hS3
      have HK3:Hid (Kp isQ B w3 wr):=hK3
      clear hS3 hK3
      by_cases hlt:i<ds.length
      ·have i1:(i:Int)<(ds.length:Int):=by omega
       have i64:(i:Int)<=64:=by omega
       obtain⟨hjn,g,hga,_,_,hgc⟩:=(P3.out.kept HK3.out).at_ i hlt
       subst hga
       have f4:=HS3.out.q.po.f4 hjn
       have z4:=HS3.out.q.po.fz hjn 4
       have HN:Hid (Sv3 B w (wr.setCell ⟨X.fb ds[i],4,none⟩ (.int .i64 0)) X (k+8006*js.length) S2 C sure1 G ds (i+1)):=HS3.out.step hlt hjn
       have HKN:Hid (Kp isQ B wr (wr.setCell ⟨X.fb ds[i],4,none⟩ (.int .i64 0))):=(HS3.out.q.po.setF (j:=ds[i]) hjn (f:=((cln G (ds.take i)).F ds[i]).cl) (i:=4) (u:=.int .i64 0) rfl HS3.out.q.le).2.f
       clear hjn
       unfold ptF at hgc
       generalize ds[i]=j at *
       generalize ((cln G (List.take i ds)).F j).si=si at *
       go_wp2
       go_roundw
       case rel=>exact⟨i+1,hlt,by go_num,HN.out,HK3.out.trans HKN.out⟩
       case measure=>simp[intOf];omega
      ·obtain rfl:i=ds.length:=by omega
       have i1:¬ (ds.length:Int)<(ds.length:Int):=by omega
       have hq:=HS3.out.q
       rw[List.take_length] at hq
       have c4:=hq.po.c4
       have z4:=hq.po.z 4
       have HF:Hid (∀ x:Int,Pq B (wr.setCell ⟨X.pb,4,none⟩ (.int .i64 x)) X (k+8006*js.length) S2 C sure1 {cln G ds with sv:=x}/\Kp isF B wr (wr.setCell ⟨X.pb,4,none⟩ (.int .i64 x))):=fun x=>by
        have:=hq.po.setP (G':={cln G ds with sv:=x}) (i:=4) (u:=.int .i64 x) rfl rfl hq.po.h0 hq.po.h1 hq.le
        exact⟨hq.turn this,this.2⟩
       have HKw:Hid (Kp isQ B w wr):=HS3.out.kp
       clear hlt hi hq HS3 HK3
       generalize (cln G ds).sv=sv at *
       go_wp2
       go_ret
       refine⟨0,rfl,fun _=>⟨ds,S2,sure1,_,PM.out,(HF.out _).1,HSp.out,hsu.out,HCm.out,HKw.out.trans (HF.out _).2.f⟩,fun e=>absurd rfl e⟩
end
end Go.Proofs.YtpcnjncgilmehabGreat
