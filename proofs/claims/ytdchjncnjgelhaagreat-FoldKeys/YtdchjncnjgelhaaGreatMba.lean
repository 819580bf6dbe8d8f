import Derived.Test.YtdchjncnjgelhaaGreatMay
import Derived.Test.YtdchjncnjgelhaaGreatMaz
set_option linter.unusedVariables false
set_option linter.unusedSimpArgs false
set_option maxRecDepth 100000
namespace Go.Proofs.YtdchjncnjgelhaaGreat.Fd
open Go.RowKit Gm Go.Maps Go.Shelf
attribute [local go_sem] Oper.semAt_some
theorem whF_none {en:Int}:∀ {L:List (Int × Hs)},(∀ x∈L,¬ x.1<en)->whF L en=zH:=by
 suffices ∀ (L:List (Int × Hs)) (z:Hs),(∀ x∈L,¬ x.1<en)->L.foldl (fun h x=>if x.1<en then x.2 else h) z=z from fun {L} h=>this L zH h
 intro L
 induction L with
 | nil=>intro z h;rfl
 | cons x L ih =>
  intro z h
  rw[List.foldl_cons,if_neg (h x (List.mem_cons_self ..))]
  exact ih z fun y hy=>h y (List.mem_cons_of_mem _ hy)
theorem whF_last {en:Int} {L pre:List (Int × Hs)} {x:Int × Hs} (h:pre++[x] <+:L.reverse) (hp:∀ y∈pre,¬ y.1<en) (hx:x.1<en):whF L en=x.2:=by
 obtain⟨t,ht⟩:=h
 have e:L=t.reverse++[x]++pre.reverse:=by
  have:=congrArg List.reverse ht
  rw[List.reverse_reverse] at this
  rw[← this]
  simp
 rw[e]
 unfold whF
 rw[List.foldl_append,List.foldl_append,List.foldl_cons,List.foldl_nil,if_pos hx]
 generalize x.2=z
 have:∀ (L:List (Int × Hs)) (z:Hs),(∀ x∈L,¬ x.1<en)->L.foldl (fun h x=>if x.1<en then x.2 else h) z=z:=by
  intro L
  induction L with
  | nil=>intro z h;rfl
  | cons x L ih =>
   intro z h
   rw[List.foldl_cons,if_neg (h x (List.mem_cons_self ..))]
   exact ih z fun y hy=>h y (List.mem_cons_of_mem _ hy)
 exact this _ _ fun y hy=>hp y (List.mem_reverse.1 hy)
structure WhI (wL:World) (en:Int) (pre:List (Int × Hs)) (wr:World):Prop where
 bel:Below wL.heap.size wL wr
 no:∀ x∈pre,¬ x.1<en
theorem WhI.own {wL:World} {en:Int}:OwnFrom wL.heap.size (fun(pre:List BwC) wr=>WhI wL en (bwC pre) wr):=fun pre X Y row hs hg hr =>
 ⟨hs.bel.grown hg hs.bel.size (fun k e=>(hr k e).1),hs.no⟩
structure WhX (wL:World) (b6 b7:Nat) (en:Int) (pre:List (Int × Hs)) (wr:World):Prop where
 ex:∃ p x,pre=p++[x]/\(∀ y∈p,¬ y.1<en)/\x.1<en/\At wr b6 9 #[.string x.2.v]/\At wr b7 4 #[.bool x.2.is]
 fr:Gm.Fr (fun j=>j=b6∨j=b7) (fun j=>j=b6∨j=b7) wL wr
theorem WhX.own {wL:World} {b6 b7:Nat} {en:Int} (h6:b6<wL.heap.size) (h7:b7<wL.heap.size):OwnFrom wL.heap.size (fun(pre:List BwC) wr=>WhX wL b6 b7 en (bwC pre) wr):=fun pre X Y row hs hg hr=>by
 obtain⟨p,x,e,h1,h2,h3,h4⟩:=hs.ex
 have hn:∀ j,j<wL.heap.size->some j≠row:=fun j hj e=>by have:=(hr j e.symm).1;omega
 refine⟨⟨p,x,e,h1,h2,h3.keep (hg.block _ h3.lt (hn _ h6)),h4.keep (hg.block _ h4.lt (hn _ h7))⟩,⟨hg.os.trans hs.fr.os,hg.tape.trans hs.fr.tape,hg.output.trans hs.fr.output,Nat.le_trans hs.fr.size hg.size,fun j hj hj2=>(hg.block j (Nat.lt_of_lt_of_le hj hs.fr.size) (hn j hj)).trans (hs.fr.blk j hj hj2),hs.fr.sub⟩⟩
theorem results_cc {fn:Func} {p u:Tmp} (h:fn.results=#[.cell p 9,.cell u 4]) (tmps:Array Value) (w:World) {b c:Nat} {s:ByteArray} {x:Bool}
  (hp:tmps.getD p undef=.pointer (some ⟨b,0,none⟩)) (hu:tmps.getD u undef=.pointer (some ⟨c,0,none⟩)) (h1:w.cell? ⟨b,0,none⟩=some (.string s)) (h2:w.cell? ⟨c,0,none⟩=some (.bool x)):(results fn tmps).run Tryz.prog w=.ok (.tuple #[.string s,.bool x]) w:=by
 have hp':tmps[p]?.getD undef=.pointer (some ⟨b,0,none⟩):=by simpa using hp
 have hu':tmps[u]?.getD undef=.pointer (some ⟨c,0,none⟩):=by simpa using hu
 simp only[results,h]
 simp[Sem.run_bind,Result.andThen,hp',hu',asAddr,go_sem,h1,h2]
theorem set_two {wL W:World} {b6 b7:Nat} {s0 s:ByteArray} {x0 x:Bool} (hb:Below wL.heap.size wL W) (h6:At W b6 9 #[.string s0]) (h7:At W b7 4 #[.bool x0]) (hne:b6≠b7):At ((W.setCell ⟨b6,0,none⟩ (.string s)).setCell ⟨b7,0,none⟩ (.bool x)) b6 9 #[.string s]/\At ((W.setCell ⟨b6,0,none⟩ (.string s)).setCell ⟨b7,0,none⟩ (.bool x)) b7 4 #[.bool x]/\Gm.Fr (fun j=>j=b6∨j=b7) (fun j=>j=b6∨j=b7) wL ((W.setCell ⟨b6,0,none⟩ (.string s)).setCell ⟨b7,0,none⟩ (.bool x)):=by
 have a6:=h6.set 0 (.string s)
 have a7:=(h7.keep (w':=W.setCell ⟨b6,0,none⟩ (.string s)) (Below.heap_setCell W _ _ b7 (fun e=>hne e.symm))).set 0 (.bool x)
 exact⟨by simpa using a6.keep (Below.heap_setCell _ ⟨b7,0,none⟩ (.bool x) b6 hne),by simpa using a7,(((Gm.Fr.of_below hb _).set (Or.inl rfl) 0 _).set (Or.inr rfl) 0 _)⟩
theorem when_fr {Wl Wl':Nat->Prop} {w wL W W':World} {D:Nat} (hf:Gm.Fr Wl Wl' w wL) (h3:w.heap.size+3<=wL.heap.size) (hn:∀ j,w.heap.size<=j->j<w.heap.size+3->¬ Wl' j) (hs:Gm.Fr (fun j=>j=w.heap.size+1∨j=w.heap.size+1+1) (fun j=>j=w.heap.size+1∨j=w.heap.size+1+1) wL W) (hg:W.grownBy W' (some D)) (hD:wL.heap.size<=D):Gm.Fr Wl Wl' w W' :=
 ⟨hg.os.trans (hs.os.trans hf.os),hg.tape.trans (hs.tape.trans hf.tape),hg.output.trans (hs.output.trans hf.output),Nat.le_trans hf.size (Nat.le_trans hs.size hg.size),fun j hj hn2=>(hg.block j (Nat.lt_of_lt_of_le hj (Nat.le_trans hf.size hs.size)) (fun e=>by cases e;omega)).trans ((hs.blk j (Nat.lt_of_lt_of_le hj hf.size) (fun e=>by omega)).trans (hf.blk j hj hn2)),hf.sub⟩
def AxC (B:Nat) (t:World->Nat->BwC->Array Value) (wL:World) (x:BwC) (a':Act) (W:World):Prop:=∃ b,B<=b/\a'={tmps:=t wL b x,defers:=[]}/\At W b 71 #[.int .i64 x.2.1,.string x.2.2.v,.bool x.2.2.is]
theorem AxC.own {B B':Nat} {t:World->Nat->BwC->Array Value} {wL:World} (x:BwC) (a':Act):OwnFrom B' (fun(_:Unit) W=>AxC B t wL x a' W):=fun _ X Y row hs hg hr=>by
 obtain⟨b,h1,h2,h3⟩:=hs
 refine⟨b,h1,h2,h3.keep (hg.block b h3.lt (fun e=>?_))⟩
 obtain⟨o,ho,hc⟩:=(hr b e.symm).2
 rw[h3.blk] at ho
 cases ho
 cases hc
section
variable {w:World}{l:Nat}{fs:List ByteArray}{Wl:Nat->Prop}
structure WnE (Wl:Nat->Prop) (w:World) (h:Hs) (e:Ending) (w':World):Prop where
 ex:∃ Wl',e=.returned (.tuple #[.string h.v,.bool h.is])/\Gm.Fr Wl Wl' w w'
set_option maxHeartbeats 8000000 in
theorem When_any (h:Lg.Lo Wl w l fs) (hn:fs.length<=400) (key:ByteArray) (hs:key.size<=9223372036854775807) (en:Int):Calls Tryz.prog 28 #[.pointer (some ⟨l,0,none⟩),.string key,.int .i64 en] w fun e w'=>WnE Wl w (whF (keyF fs key fs.length) en) e w':=by
 have C:Hid (∀ wx,Below w.heap.size w wx->Calls Tryz.prog 27 #[.pointer (some ⟨l,0,none⟩),.string key] wx fun e w'=>KyE Wl wx l fs (keyF fs key fs.length) e w'):=fun wx hb=>Key_any (h.below hb) hn key hs
 have HLt:Hid (∀ j,Wl j->j<w.heap.size):=fun j hj=>h.lt hj
 have HN:Hid ((keyF fs key fs.length).length<=400):=Nat.le_trans (keyF_len _) hn
 clear h hn
 generalize keyF fs key fs.length=ts at *
 refine(callsIn_wide (n:=6)).1 ?_
 have hfol:Tryz.prog.follows .mixedOrders=true:=by kernel_rfl
 refine callsIn_of_wp_marks Tryz.func28 rfl trivial ?_ rfl
 simp only[Tryz.ntmps28,List.size_toArray,List.length_cons,List.length_nil,Nat.reduceAdd,Nat.reduceSub,Array.replicate_succ,Array.replicate_zero,List.push_toArray,List.append_toArray,List.nil_append,List.cons_append]
 have hfk:Fence.wide.fn 27:=trivial
 have hfb:Fence.wide.fn 59:=trivial
 have B3:Hid (Below w.heap.size w (((w.alloc (.cells #[.int .i64 en] 3)).alloc (.cells #[.string ⟨#[]⟩] 9)).alloc (.cells #[.bool false] 4))):=((((Below.refl _ w).alloc (Nat.le_refl _) _).alloc (by simp) _).alloc (by simp;omega) _)
 gi_wp2_with (first
  | (gi_at_call 27;refine(callsIn_wide.2 (C.out _ B3.out)).mono ?_;rintro e w2 ⟨a0,c0,Wl',rfl,r0,hlo,hfr,hown⟩)
  | (gi_at_call 59;refine(bkc_in Fence.wide 5 hfb rfl _ _ _ _).mono ?_;rintro e w3 ⟨rfl,rfl⟩))
 obtain⟨g,hg⟩:∃ g,0<ts.length->a0=some ⟨g,0,none⟩/\g<w2.heap.size/\∀ j (hj:j<ts.length),w2.cell? ⟨g,j*3,none⟩=some (.int .i64 ts[j].1)/\w2.cell? ⟨g,j*3+1,none⟩=some (.string ts[j].2.v)/\w2.cell? ⟨g,j*3+2,none⟩=some (.bool ts[j].2.is):=(by
  rcases Nat.eq_zero_or_pos ts.length with h0 |h0
  ·exact⟨0,fun h=>absurd h (by omega)⟩
  ·obtain⟨g,e,hlt,_⟩:=r0.at_ (i:=0) (by rw[List.length_map];exact h0)
   refine⟨g,fun _=>⟨e,hlt,fun j hj=>?_⟩⟩
   obtain⟨g',e',_,hat⟩:=r0.at_ (i:=j) (by rw[List.length_map];exact hj)
   rw[e] at e'
   cases e'
   have hra:=(hat w2 rfl).1
   rw[List.getElem_map] at hra
   exact⟨by simpa using hra 0 (.int .i64 ts[j].1) rfl,hra 1 (.string ts[j].2.v) rfl,hra 2 (.bool ts[j].2.is) rfl⟩)
 have s3:(((w.alloc (.cells #[.int .i64 en] 3)).alloc (.cells #[.string ⟨#[]⟩] 9)).alloc (.cells #[.bool false] 4)).heap.size=w.heap.size+3:=by simp
 have hW3:∀ j,Wl j->j<w.heap.size:=HLt.out
 obtain⟨wL,hwL⟩:∃ x:World,x=w2.alloc (.cells #[.slice a0 ts.length c0] 66):=⟨_,rfl⟩
 have q4:Below w2.heap.size w2 wL:=hwL ▸ bl1 _
 have sL:w2.heap.size<wL.heap.size:=by rw[hwL];simp
 have cB:wL.cell? ⟨w2.heap.size,0,none⟩=some (.slice a0 ts.length c0):=by rw[hwL];exact(At.new w2 #[.slice a0 ts.length c0] 66).c 0
 rw[← hwL]
 have s2:w.heap.size+3<=w2.heap.size:=s3 ▸ hfr.size
 have P5:Hid (At wL w.heap.size 3 #[.int .i64 en]):=(((((At.new w #[.int .i64 en] 3).bel (bl1 _)).bel (bl1 _)).fr hfr (fun e=>Nat.lt_irrefl _ (hW3 _ e))).bel q4)
 have P6:Hid (At wL (w.heap.size+1) 9 #[.string ⟨#[]⟩]):=(by
  have:=At.new (w.alloc (.cells #[.int .i64 en] 3)) #[.string ⟨#[]⟩] 9
  exact(((by simpa using this:At _ (w.heap.size+1) _ _).bel (bl1 _)).fr hfr (fun e=>by have:=hW3 _ e;omega)).bel q4)
 have P7:Hid (At wL (w.heap.size+1+1) 4 #[.bool false]):=(by
  have:=At.new ((w.alloc (.cells #[.int .i64 en] 3)).alloc (.cells #[.string ⟨#[]⟩] 9)) #[.bool false] 4
  exact(((by simpa using this:At _ (w.heap.size+1+1) _ _)).fr hfr (fun e=>by have:=hW3 _ e;omega)).bel q4)
 have FL:Hid (Gm.Fr Wl Wl' w wL/\w.heap.size+3<=wL.heap.size/\∀ j,w.heap.size<=j->j<w.heap.size+3->¬ Wl' j):=⟨((Gm.Fr.of_below B3.out Wl).trans hfr).below q4,by omega,fun j h1 h2 hj=>by
  rcases hfr.sub j hj with e |e
  ·have:=hW3 j e;omega
  ·omega⟩
 have HI0:Hid (WhI wL en [] wL):=⟨Below.refl _ _,fun x hx=>by cases hx⟩
 have hseq:=bkc_stops (n₀:=wL.heap.size) (Bs:=w2.heap.size) (g:=g) (m:=ts.length) (a:=a0) (c:=c0) (ts:=ts) Fence.wide 5 trivial rfl (by omega) rfl (by have:=HN.out;omega) sL (Nat.le_refl _) cB (fun h=>by
  obtain⟨h1,h2,h4⟩:=hg h
  exact⟨h1,by omega,fun j hj=>⟨(q4.cell (p:=⟨g,j*3,none⟩) h2).trans (h4 j hj).1,(q4.cell (p:=⟨g,j*3+1,none⟩) h2).trans (h4 j hj).2.1,(q4.cell (p:=⟨g,j*3+2,none⟩) h2).trans (h4 j hj).2.2⟩⟩)
 have HSZ:Hid (w.heap.size+3<=wL.heap.size):=FL.out.2.1
 clear hg cB r0 hlo hfr hown q4 s3 C hwL s2 B3 hW3
 refine wpIn_rangeFunc_ownH (α:=BwC) rfl (by omega) (gf:=90) (lb:=#[.pointer (some ⟨w2.heap.size,0,none⟩)]) rfl trivial (enters_of Tryz.func90 (by kernel_rfl) rfl) hseq
  (fun h k=>KpC.trans h k) (fun W l o o' hl _ _ _=>KpC.put W l o' hl) (Below.refl _ _) (fun _=>rfl)
  (fun pre W=>WhI wL en (bwC pre) W)
  (fun c pre W=>c=.ret/\WhX wL (w.heap.size+1) (w.heap.size+1+1) en (bwC pre) W)
  WhI.own
  (fun c pre X Y row hs hg hr=>⟨hs.1,WhX.own (by have:=HSZ.out;omega) (by have:=HSZ.out;omega) pre X Y row hs.2 hg hr⟩)
  HI0.out
  (fun x a' W=>AxC wL.heap.size (fun wL b x=>#[.pointer (some ⟨l,0,none⟩),.string key,.int .i64 en,undef,undef,.pointer (some ⟨w.heap.size,0,none⟩),.pointer (some ⟨w.heap.size+1,0,none⟩),.pointer (some ⟨w.heap.size+1+1,0,none⟩),undef,.pointer (some ⟨b,0,none⟩),.pointer (some ⟨l,0,none⟩),.string key,.slice a0 ts.length c0,.func (.func 90) #[] #[.pointer (some ⟨w2.heap.size,0,none⟩)],.int .i64 x.1,encA x.2,undef,undef,undef,undef,undef,undef,undef,undef]) wL x a' W)
  (fun x a'=>AxC.own x a') ?assign ?body ?done ?stop
 case assign =>
  intro l' pre x W K hI hK
  obtain⟨xi,xa,xv,xb⟩:=x
  dsimp only[encA]
  have bW:Below W.heap.size W (W.alloc (.cells #[.int .i64 xa,.string xv,.bool xb] 71)):=bl1 _
  gi_wp2
  exact hK _ _ ⟨bW.size,fun k o _ hk _=>(bW.block k (lt_of hk)).trans hk⟩ ⟨bW.size,fun k hk=>bW.block k (Nat.lt_of_lt_of_le hk hI.bel.size)⟩ ⟨thn hI.bel bW,hI.no⟩ ⟨W.heap.size,hI.bel.size,rfl,At.new _ _ _⟩
 case body =>
  rintro l' pre ⟨xi,xa,xv,xb⟩ a' Wr hl hrec hI ⟨b,hb,rfl,hA⟩ hlt
  have HI:Hid (WhI wL en (bwC pre) Wr):=hI
  have HA:Hid (At Wr b 71 #[.int .i64 xa,.string xv,.bool xb]):=hA
  have c0':Wr.cell? ⟨b,0,none⟩=some (.int .i64 xa):=hA.c 0
  have c5:Wr.cell? ⟨w.heap.size,0,none⟩=some (.int .i64 en):=(P5.out.bel hI.bel).c 0
  by_cases hx:xa<en
  ·have A6:Hid (At Wr.drew (w.heap.size+1) 9 #[.string ⟨#[]⟩]):=(P6.out.bel hI.bel).bel (bdr (Below.refl _ _) 1)
   have A7:Hid (At Wr.drew (w.heap.size+1+1) 4 #[.bool false]):=(P7.out.bel hI.bel).bel (bdr (Below.refl _ _) 1)
   have c1':Wr.drew.cell? ⟨b,1,none⟩=some (.string xv):=(hA.bel (bdr (Below.refl _ _) 1)).c 1
   have c2':Wr.drew.cell? ⟨b,2,none⟩=some (.bool xb):=(hA.bel (bdr (Below.refl _ _) 1)).c 2
   have f6:Wr.drew.frozen? ⟨w.heap.size+1,0,none⟩=false:=A6.out.f 0
   have g6:Wr.drew.cell? ⟨w.heap.size+1,0,none⟩=some (.string ⟨#[]⟩):=A6.out.c 0
   have f7:(Wr.drew.setCell ⟨w.heap.size+1,0,none⟩ (.string xv)).frozen? ⟨w.heap.size+1+1,0,none⟩=false:=(A7.out.keep (Below.heap_setCell _ _ _ _ (by simp))).f 0
   have g7:(Wr.drew.setCell ⟨w.heap.size+1,0,none⟩ (.string xv)).cell? ⟨w.heap.size+1+1,0,none⟩=some (.bool false):=(A7.out.keep (Below.heap_setCell _ _ _ _ (by simp))).c 0
   have f8:(Wr.setCell ⟨w.heap.size+1,0,none⟩ (.string xv)).drew.frozen? ⟨w.heap.size+1+1,0,none⟩=false:=f7
   have g8:(Wr.setCell ⟨w.heap.size+1,0,none⟩ (.string xv)).drew.cell? ⟨w.heap.size+1+1,0,none⟩=some (.bool false):=g7
   have k2:(Wr.setCell ⟨w.heap.size+1,0,none⟩ (.string xv)).drew.cell? ⟨b,2,none⟩=some (.bool xb):=(hA.keep (Below.heap_setCell _ _ _ b (by have:=HSZ.out;simp;omega))).c 2
   have k3:(Wr.drew.setCell ⟨w.heap.size+1,0,none⟩ (.string xv)).cell? ⟨b,2,none⟩=some (.bool xb):=k2
   have hI9:Hid (Below wL.heap.size wL Wr.drew):=thn hI.bel (bdr (Below.refl _ _) 1)
   clear hI hA
   gi_wp2
   gi_region_with_o (fail)
   all_goals gi_wp2
   all_goals
    obtain⟨s1,s2,s3⟩:=set_two (s:=xv) (x:=xb) HI.out.bel (A6.out.keep (w':=Wr) rfl) (A7.out.keep (w':=Wr) rfl) (by omega)
    refine⟨⟨by simp,fun k o hB hk _=>?_⟩,rfl,⟨bwC pre,(xa,⟨xv,xb⟩),bwC_snoc _ _,HI.out.no,hx,s1.keep rfl,s2.keep rfl⟩,s3.below (bdr (Below.refl _ _) 1)⟩
    have:=HSZ.out
    show((Wr.setCell ⟨w.heap.size+1,0,none⟩ (.string xv)).setCell ⟨w.heap.size+1+1,0,none⟩ (.bool xb)).heap[k]?=some o
    rw[Below.heap_setCell _ _ _ k (by simp;omega),Below.heap_setCell _ _ _ k (by simp;omega)]
    exact hk
  ·gi_wp2
   refine⟨KeepsFrom.refl _ _,KpC.refl _ _,hI.bel,fun y hy=>?_⟩
   rw[bwC_snoc] at hy
   rcases List.mem_append.1 hy with h |h
   ·exact hI.no y h
   ·rw[List.mem_singleton] at h
    subst h
    show ¬ xa<en
    omega
 case done =>
  rintro D ys W hD hys hI hK
  have A6:Hid (At W (w.heap.size+1) 9 #[.string ⟨#[]⟩]):=P6.out.bel hI.bel
  have A7:Hid (At W (w.heap.size+1+1) 4 #[.bool false]):=P7.out.bel hI.bel
  have f6:W.frozen? ⟨w.heap.size+1,0,none⟩=false:=A6.out.f 0
  have g6:W.cell? ⟨w.heap.size+1,0,none⟩=some (.string ⟨#[]⟩):=A6.out.c 0
  have f7:(W.setCell ⟨w.heap.size+1,0,none⟩ (.string ⟨#[]⟩)).frozen? ⟨w.heap.size+1+1,0,none⟩=false:=(A7.out.keep (Below.heap_setCell _ _ _ _ (by simp))).f 0
  have g7:(W.setCell ⟨w.heap.size+1,0,none⟩ (.string ⟨#[]⟩)).cell? ⟨w.heap.size+1+1,0,none⟩=some (.bool false):=(A7.out.keep (Below.heap_setCell _ _ _ _ (by simp))).c 0
  have hI9:=hI.bel
  have hz:whF ts en=zH:=whF_none fun x hx=>hI.no x (by rw[hys];exact List.mem_reverse.2 hx)
  gi_wp2
  obtain⟨s1,s2,s3⟩:=set_two (s:=⟨#[]⟩) (x:=false) hI9 A6.out A7.out (by omega)
  have hK2:((W.setCell ⟨w.heap.size+1,0,none⟩ (.string ⟨#[]⟩)).setCell ⟨w.heap.size+1+1,0,none⟩ (.bool false)).heap[D]?=some (.deferred (some [])):=by
   have:=HSZ.out
   rw[Below.heap_setCell _ _ _ D (by simp;omega),Below.heap_setCell _ _ _ D (by simp;omega)]
   exact hK
  refine⟨by simp,.inl ⟨_,_,rfl,run_takeDeferred hK2,?_⟩⟩
  have hgr:=grownBy_putObj' ((W.setCell ⟨w.heap.size+1,0,none⟩ (.string ⟨#[]⟩)).setCell ⟨w.heap.size+1+1,0,none⟩ (.bool false)) D (.deferred none)
  have hD2:D≠w.heap.size+1/\D≠w.heap.size+1+1:=by have:=HSZ.out;omega
  have t6:=s1.keep (hgr.block _ s1.lt (fun e=>by cases e;omega))
  have t7:=s2.keep (hgr.block _ s2.lt (fun e=>by cases e;omega))
  refine⟨_,results_cc rfl _ _ rfl rfl (t6.c 0) (t7.c 0),Wl',?_,when_fr FL.out.1 FL.out.2.1 FL.out.2.2 s3 hgr hD⟩
  rw[hz]
  rfl
 case stop =>
  rintro D c pre W hD hp ⟨rfl,h⟩ hdef
  gi_wp2
  refine⟨by simp,.inl ⟨_,_,rfl,run_takeDeferred hdef,?_⟩⟩
  obtain⟨⟨p,x,e,h1,h2,s1,s2⟩,s3⟩:=h
  have hgr:=grownBy_putObj' W D (.deferred none)
  have hD2:D≠w.heap.size+1/\D≠w.heap.size+1+1:=by have:=HSZ.out;omega
  have t6:=s1.keep (hgr.block _ s1.lt (fun e=>by cases e;omega))
  have t7:=s2.keep (hgr.block _ s2.lt (fun e=>by cases e;omega))
  refine⟨_,results_cc rfl _ _ rfl rfl (t6.c 0) (t7.c 0),Wl',?_,when_fr FL.out.1 FL.out.2.1 FL.out.2.2 s3 hgr hD⟩
  rw[e] at hp
  rw[whF_last hp h1 h2]
end
end Go.Proofs.YtdchjncnjgelhaaGreat.Fd
