import Derived.Test.YtdchjncnjgelhaaGreatMat
import Derived.BigQuiet
import Derived.Deep.QuietTactic
import Derived.Deep.RegionHeldLaw
import Derived.Test.YtdchjncnjgelhaaGreatMap
set_option linter.unusedVariables false
set_option linter.unusedSimpArgs false
set_option maxRecDepth 100000
namespace Go.Proofs.YtdchjncnjgelhaaGreat.Lg
open Go.RowKit Go.Maps Go.ChangeMaps
open Gm (thn bl1 bdr)
structure RwM (w:World) (L:List Rq.SpL) (n:Nat) (e:Ending) (w':World):Prop where
 ex:∃ a c,e=.returned (.slice a n c)/\Gm.Row w' 40 2 (.slice a n c) (L.map Rq.encS)
 bel:Below w.heap.size w w'
theorem tbM_nd2 (fs:List ByteArray) {k:Nat} {G:List Rq.SpL} (h:(G.map (·.1)).Nodup):∀ i,((tbM fs k G i).map (·.1)).Nodup
 | 0=>h
 | i+1=>by
  unfold tbM
  split
  ·exact h
  ·exact stepG_nd (tbM_nd2 fs h i)
section
variable {w w1 w2:World}{v:Value}{fs:List ByteArray}{G:List Rq.SpL}{k0 c c':Nat}{a a':Option Addr}{s:Sc}{x:Int}
theorem tput_step (h:Gm.Row w 40 2 v ((tabL G).map Rq.encS)) (hnd:(G.map (·.1)).Nodup) (hl:G.length<=1000) (hk:s.kd=3∨s.kd=4∨s.kd=5∨s.kd=6):Calls Tryz.prog 22 #[v,.int .i64 s.tx,.int .i64 x] w fun e w'=>RwM w (tabL (stepG s x G)) (stepG s x G).length e w':=by
 refine(tput_any (t:=s.tx) (x:=x) h (by rw[tabL_len];exact hl)).mono ?_
 rintro e w' ⟨⟨a,c,he,hr,_⟩,hb⟩
 have e1:stepG s x G=gW G s.tx x:=by unfold stepG;rw[if_pos hk]
 rw[put_tab hnd] at he hr
 rw[tabL_len] at he hr
 rw[e1]
 exact⟨⟨a,c,he,hr⟩,hb⟩
theorem tdrop_step (h:Gm.Row w 40 2 v ((tabL G).map Rq.encS)) (hnd:(G.map (·.1)).Nodup) (hl:G.length<=1000) (hk:s.kd=7∨s.kd=8):Calls Tryz.prog 50 #[v,.int .i64 s.tx] w fun e w'=>RwM w (tabL (stepG s x G)) (stepG s x G).length e w':=by
 refine(tdrop_any (t:=s.tx) h (by rw[tabL_len];exact hl)).mono ?_
 rintro e w' ⟨⟨a,c,he,hr,_⟩,hb⟩
 have e1:stepG s x G=gD G s.tx:=by unfold stepG;rw[if_neg (by omega),if_pos hk]
 rw[drop_tab hnd] at he hr
 rw[tabL_len] at he hr
 rw[e1]
 exact⟨⟨a,c,he,hr⟩,hb⟩
set_option maxHeartbeats 8000000 in
theorem ttable_any (hm:Md w1 w2 w) (hr:RwT w1 w2 fs a a') (h:Gm.Row w 40 2 v ((tabL G).map Rq.encS)) (hnd:(G.map (·.1)).Nodup) (hl:G.length<=300) (hn:fs.length<=60) (hk0:k0<=fs.length):Calls Tryz.prog 20 #[v,.slice a fs.length c,.slice a' fs.length c',.int .i64 (k0:Int)] w fun e w'=>RwM w (tabL (tbM fs k0 G fs.length)) (tbM fs k0 G fs.length).length e w':=by
 obtain⟨av,cv,ev,_⟩:=h.sl
 rw[List.length_map,tabL_len] at ev
 subst ev
 have HM:Hid (∀ wx,Below w.heap.size w wx->Md w1 w2 wx):=fun wx hb=>hm.bel hb
 have HR:Hid (RwT w1 w2 fs a a'):=hr
 obtain⟨m,hm9⟩:∃ m,fs.length=m:=⟨_,rfl⟩
 have Hm:Hid (fs.length=m):=hm9
 have HG:Hid (∀ i,i<=fs.length->(tbM fs k0 G i).length<=400/\((tbM fs k0 G i).map (·.1)).Nodup):=fun i hi=>⟨by have:=tbM_len fs k0 G i;omega,tbM_nd2 fs hnd i⟩
 have H0:Hid (Gm.Row w 40 2 (.slice av G.length cv) ((tabL G).map Rq.encS)):=h
 clear hm hr h hnd
 rw[hm9] at hn hk0 HG ⊢
 clear hm9
 go_enter Tryz.func20,Tryz.ntmps20
 go_wp2
 go_loopg [0,9] m (fun k v0 vi wr=>∃ (i:Nat) (a1:Option Addr) (c1:Nat),vi=.int .i64 (i:Int)/\m-i<=k/\k0<=i/\i<=m/\v0=.slice a1 (tbM fs k0 G i).length c1/\Gm.Row wr 40 2 v0 ((tabL (tbM fs k0 G i)).map Rq.encS)/\Below w.heap.size w wr)
 case atStart=>exact⟨k0,av,cv,rfl,by omega,Nat.le_refl _,hk0,by rw[tbM_at fs k0 G k0 (Nat.le_refl _)],by rw[tbM_at fs k0 G k0 (Nat.le_refl _)];exact H0.out,Below.refl _ _⟩
 case round =>
  obtain⟨i,a1,c1,rfl,hk,hki,him,rfl,hRw,hB⟩:=hrel
  have HO:Hid (Gm.Row wr 40 2 (.slice a1 (tbM fs k0 G i).length c1) ((tabL (tbM fs k0 G i)).map Rq.encS)/\Below w.heap.size w wr):=⟨hRw,hB⟩
  clear hRw
  by_cases hlt:i<m
  ·have hltI:(i:Int)<(m:Int):=by omega
   obtain⟨g,g',I,aT,cT,rfl,rfl,hat⟩:=HR.out.at_ i (by rw[Hm.out];exact hlt)
   have HAT:Hid (∀ wx,Below w.heap.size w wx->wx.cell? ⟨g,i*13,none⟩=some (.int .i64 (rcd fs i).kd)/\wx.cell? ⟨g,i*13+1,none⟩=some (.int .i64 (rcd fs i).tx)/\wx.cell? ⟨g',i,none⟩=some (.int .i64 (pla fs i))):=fun wx hb=>by
    obtain⟨q1,q2,_⟩:=hat wx (HM.out wx hb)
    exact⟨by simpa using q1 0 _ rfl,q1 1 _ rfl,q2⟩
   obtain⟨r0,r1,rp⟩:=HAT.out wr hB
   have HS:Hid (tbM fs k0 G (i+1)=stepG (rcd fs i) (pla fs i) (tbM fs k0 G i)):=tbM_succ fs G hki
   have CP:Hid (((rcd fs i).kd=3∨(rcd fs i).kd=4∨(rcd fs i).kd=5∨(rcd fs i).kd=6)->∀ wx,Below wr.heap.size wr wx->Calls Tryz.prog 22 #[.slice a1 (tbM fs k0 G i).length c1,.int .i64 (rcd fs i).tx,.int .i64 (pla fs i)] wx fun e w'=>RwM wx (tabL (tbM fs k0 G (i+1))) (tbM fs k0 G (i+1)).length e w'):=fun hkd wx hb=>by
    rw[HS.out]
    have:=HG.out i him
    exact tput_step (HO.out.1.bel hb) this.2 (by omega) hkd
   have CD:Hid (((rcd fs i).kd=7∨(rcd fs i).kd=8)->∀ wx,Below wr.heap.size wr wx->Calls Tryz.prog 50 #[.slice a1 (tbM fs k0 G i).length c1,.int .i64 (rcd fs i).tx] wx fun e w'=>RwM wx (tabL (tbM fs k0 G (i+1))) (tbM fs k0 G (i+1)).length e w'):=fun hkd wx hb=>by
    rw[HS.out]
    have:=HG.out i him
    exact tdrop_step (HO.out.1.bel hb) this.2 (by omega) hkd
   have HN:Hid (¬ ((rcd fs i).kd=3∨(rcd fs i).kd=4∨(rcd fs i).kd=5∨(rcd fs i).kd=6)->¬ ((rcd fs i).kd=7∨(rcd fs i).kd=8)->tbM fs k0 G (i+1)=tbM fs k0 G i):=fun h1 h2=>HS.out.trans (by unfold stepG;rw[if_neg h1,if_neg h2])
   clear hat hB HS
   generalize hG2:tbM fs k0 G (i+1)=G2 at *
   have HG2:Hid (tbM fs k0 G (i+1)=G2):=hG2
   clear hG2
   generalize hGi:tbM fs k0 G i=G1 at *
   clear hGi
   generalize (rcd fs i).kd=kd at *
   generalize (rcd fs i).tx=tx at *
   generalize pla fs i=x at *
   by_cases hp:kd=3∨kd=4∨kd=5∨kd=6
   ·have CP2:Hid (∀ wx,Below wr.heap.size wr wx->Calls Tryz.prog 22 #[.slice a1 G1.length c1,.int .i64 tx,.int .i64 x] wx fun e w'=>RwM wx (tabL G2) G2.length e w'):=CP.out hp
    have s1:wr.drew.cell? ⟨g,i*13+1,none⟩=some (.int .i64 tx):=r1
    have sp:wr.drew.cell? ⟨g',i,none⟩=some (.int .i64 x):=rp
    clear CP CD HN
    rcases hp with rfl |rfl |rfl |rfl
    all_goals
     go_wp2
     go_region_held_law (fun wx=>wx.cell? ⟨g,i*13+1,none⟩=some (.int .i64 tx)/\wx.cell? ⟨g',i,none⟩=some (.int .i64 x)) (first |exact⟨r1,rp⟩ |exact⟨s1,sp⟩ |exact Y5.out.2) ((go_at_call 22;refine(CP2.out _ (bdr (Below.refl _ _) 1)).mono ?_;rintro e w5 ⟨⟨a5,c5,rfl,r5⟩,b5⟩;have X5:Hid (Gm.Row w5 40 2 (.slice a5 G2.length c5) ((tabL G2).map Rq.encS)/\Below w.heap.size w w5):=⟨r5,thn HO.out.2 (thn (bdr (Below.refl _ _) 1) b5)⟩;have Y5:Hid (True/\w5.cell? ⟨g,i*13+1,none⟩=some (.int .i64 tx)/\w5.cell? ⟨g',i,none⟩=some (.int .i64 x)):=⟨trivial,(HAT.out _ X5.out.2).2⟩;clear r5 b5))
     go_wp2
     go_roundg (m-(i+1))
     case measure=>omega
     case rel=>exact⟨i+1,a5,c5,by first |rfl |go_num,Nat.le_refl _,by omega,by omega,by rw[HG2.out],by rw[HG2.out];exact X5.out.1,X5.out.2⟩
   ·by_cases hd:kd=7∨kd=8
    ·have CD2:Hid (∀ wx,Below wr.heap.size wr wx->Calls Tryz.prog 50 #[.slice a1 G1.length c1,.int .i64 tx] wx fun e w'=>RwM wx (tabL G2) G2.length e w'):=CD.out hd
     clear CP CD HN hp
     rcases hd with rfl |rfl
     all_goals
      go_wp2_with first
       | (go_at_call 50;refine(CD2.out _ (Below.refl _ _)).mono ?_;rintro e w5 ⟨⟨a5,c5,rfl,r5⟩,b5⟩;have X5:Hid (Gm.Row w5 40 2 (.slice a5 G2.length c5) ((tabL G2).map Rq.encS)/\Below w.heap.size w w5):=⟨r5,thn HO.out.2 b5⟩;clear r5 b5)
      go_roundg (m-(i+1))
      case measure=>omega
      case rel=>exact⟨i+1,a5,c5,by first |rfl |go_num,Nat.le_refl _,by omega,by omega,by rw[HG2.out],by rw[HG2.out];exact X5.out.1,X5.out.2⟩
    ·have HE:Hid (G2=G1):=HN.out hp hd
     have q3:(kd==3)=false:=by simp;omega
     have q4:(kd==4)=false:=by simp;omega
     have q5:(kd==5)=false:=by simp;omega
     have q6:(kd==6)=false:=by simp;omega
     have q7:(kd==7)=false:=by simp;omega
     have q8:(kd==8)=false:=by simp;omega
     clear CP CD HN hp hd
     go_wp2
     go_roundg (m-(i+1))
     case measure=>omega
     case rel=>exact⟨i+1,a1,c1,by first |rfl |go_num,Nat.le_refl _,by omega,by omega,by rw[HG2.out,HE.out],by rw[HG2.out,HE.out];exact HO.out.1,HO.out.2⟩
  ·obtain rfl:i=m:=by omega
   have hltI:¬ (i:Int)<(i:Int):=by omega
   go_wp2
   go_ret
   exact⟨⟨a1,c1,rfl,HO.out.1⟩,HO.out.2⟩
end
section
variable {w w1 w2 wx wy:World}{l:Nat}{fs:List ByteArray}{W W':Nat->Prop}{a a':Option Addr}{c:Nat}{G:List Rq.SpL}{v:Value}{x:Int}
structure Kx (w w1 w2:World) (l:Nat) (fs:List ByteArray) (v:Value) (L:List Rq.SpL) (wx:World):Prop where
 lo:∃ W,Lo W wx l fs/\(∀ j,W j->w.heap.size<=j)/\(∀ j,w1.heap.size<=j->j<w2.heap.size->¬ W j)/\∀ g,v.ownBlock=some g->¬ W g
 md:Md w1 w2 wx
 bel:Below w.heap.size w wx
 row:Gm.Row wx 40 2 v (L.map Rq.encS)
theorem Kx.below {L:List Rq.SpL} (h:Kx w w1 w2 l fs v L wx) (hb:Below wx.heap.size wx wy):Kx w w1 w2 l fs v L wy:=by
 obtain⟨W,h1,h2⟩:=h.lo
 exact⟨⟨W,h1.below hb,h2⟩,h.md.bel hb,thn h.bel hb,h.row.bel hb⟩
theorem Kx.fit {L:List Rq.SpL} (h:Kx w w1 w2 l fs v L wx):Fit 200 fs:=by obtain⟨W,h1,_⟩:=h.lo;exact h1.fit
theorem Kx.after {L:List Rq.SpL} {W':Nat->Prop} (hW:Lo W wx l fs/\(∀ j,W j->w.heap.size<=j)/\(∀ j,w1.heap.size<=j->j<w2.heap.size->¬ W j)/\∀ g,v.ownBlock=some g->¬ W g) (h:Kx w w1 w2 l fs v L wx) (hl:Lo W' wy l fs) (hf:Gm.Fr W W' wx wy):Kx w w1 w2 l fs v L wy:=by
 obtain⟨h1,h2,h3,h4⟩:=hW
 refine⟨⟨W',hl,fun j hj=>(hf.sub j hj).elim (h2 j) fun e=>Nat.le_trans h.bel.size e,fun j q1 q2 hj=>?_,fun g e hj=>?_⟩,h.md.fr hf h3,h.bel.trans (hf.bel h2 h.bel.size),h.row.fr hf h4⟩
 ·rcases hf.sub j hj with e |e
  ·exact h3 j q1 q2 e
  ·have:=h.md.1;omega
 ·rcases hf.sub g hj with e2 |e2
  ·exact h4 g e e2
  ·have:=h.row.lt e;omega
theorem Kx.tab {L:List Rq.SpL} (h:Kx w w1 w2 l fs v L wx) (hC:∀ W,Lo W wx l fs->Calls Tryz.prog 18 #[.pointer (some ⟨l,0,none⟩),.int .i64 x] wx fun e w'=>TaO W wx l fs G e w'):Calls Tryz.prog 18 #[.pointer (some ⟨l,0,none⟩),.int .i64 x] wx fun e w'=>∃ a c,e=.returned (.tuple #[.slice a G.length c,.int .i64 0])/\Gm.Row w' 40 2 (.slice a G.length c) ((tabL G).map Rq.encS)/\Kx w w1 w2 l fs v L w':=by
 obtain⟨W,hW⟩:=h.lo
 refine(hC W hW.1).mono ?_
 rintro e w' ⟨a,c,W',he,hl,hf,hr,ho⟩
 exact⟨a,c,he,hr,h.after hW hl hf⟩
theorem Kx.tabn {L:List Rq.SpL} (h:Kx w w1 w2 l fs v L wx) (hC:∀ W,Lo W wx l fs->Calls Tryz.prog 18 #[.pointer (some ⟨l,0,none⟩),.int .i64 x] wx fun e w'=>TnO W wx l fs e w'):Calls Tryz.prog 18 #[.pointer (some ⟨l,0,none⟩),.int .i64 x] wx fun e w'=>e=.returned (.tuple #[.slice none 0 0,.int .i64 20])/\Kx w w1 w2 l fs v L w':=by
 obtain⟨W,hW⟩:=h.lo
 refine(hC W hW.1).mono ?_
 rintro e w' ⟨W',he,hl,hf⟩
 exact⟨he,h.after hW hl hf⟩
structure Ky (w w1 w2:World) (l:Nat) (fs:List ByteArray):Prop where
 lo:∃ W,Lo W w2 l fs/\(∀ j,W j->w.heap.size<=j)/\∀ j,w1.heap.size<=j->j<w2.heap.size->¬ W j
 bel:Below w.heap.size w w2
theorem Lk.recs (h:Lk w l [] 60 w1):Calls Tryz.prog 17 #[.pointer (some ⟨l,0,none⟩)] w1 fun e w2=>∃ fs a c a' c',e=.returned (.tuple #[.slice a fs.length c,.slice a' fs.length c'])/\fs.length<=60/\RwT w1 w2 fs a a'/\Ky w w1 w2 l fs:=by
 obtain⟨W,gs,h1,hk,h2,h3⟩:=h.ex
 rw[List.nil_append] at h1
 refine h1.recsT.mono ?_
 rintro e w2 ⟨a,c,a',c',W',he,hr,hl,hf,ho⟩
 exact⟨gs,a,c,a',c',he,hk,hr,⟨W',hl,ge_sub h2 h3.size hf,fun j q1 q2 hj=>by have:=ho j hj;omega⟩,h3.trans (hf.bel h2 h3.size)⟩
theorem Ky.tab0 (h:Ky w w1 w2 l fs):Calls Tryz.prog 18 #[.pointer (some ⟨l,0,none⟩),.int .i64 0] w2 fun e w'=>∃ a c,e=.returned (.tuple #[.slice a (tbM fs 0 [] fs.length).length c,.int .i64 0])/\Kx w w1 w2 l fs (.slice a (tbM fs 0 [] fs.length).length c) (tabL (tbM fs 0 [] fs.length)) w':=by
 obtain⟨W,h1,h2,h3⟩:=h.lo
 refine(Table_zero h1 (c:=0) (by omega)).mono ?_
 rintro e w' ⟨a,c,W',he,hl,hf,hr,ho⟩
 refine⟨a,c,he,⟨W',hl,fun j hj=>(hf.sub j hj).elim (h2 j) fun e=>Nat.le_trans h.bel.size e,fun j q1 q2 hj=>?_,fun g e=>(ho g e).1⟩,(Md.refl w1 w2).fr hf h3,h.bel.trans (hf.bel h2 h.bel.size),hr⟩
 rcases hf.sub j hj with e |e
 ·exact h3 j q1 q2 e
 ·omega
theorem pla_inj {fs:List ByteArray} (hf:∀ f∈fs,Frm f) {i j:Nat} (hi:i<fs.length) (hj:j<fs.length) (h:pla fs i=pla fs j):i=j:=by
 unfold pla at h
 rcases Nat.lt_trichotomy i j with h1 |h1 |h1
 ·have:=off_lt hf h1 (Nat.le_of_lt hj);omega
 ·exact h1
 ·have:=off_lt hf h1 (Nat.le_of_lt hi);omega
theorem no_bnd {fs:List ByteArray} {x:Int} (h:∀ i,i<fs.length->pla fs i≠x):((cat fs).size:Int)+1<=x∨bnd fs x=false:=by
 cases hb:bnd fs x with
 | false=>exact Or.inr rfl
 | true =>
  obtain⟨i,hi,e⟩:=bnd_iff.1 hb
  rcases Nat.lt_or_ge i fs.length with h1 |h1
  ·exact absurd e.symm (h i h1)
  ·obtain rfl:i=fs.length:=by omega
   left
   have:=pla_end fs
   unfold pla at this
   omega
end
end Go.Proofs.YtdchjncnjgelhaaGreat.Lg
