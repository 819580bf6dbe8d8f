import Derived.Test.YtkcpclmkbmeigaaGreatMad
import Derived.Test.YtkcpclmkbmeigaaGreatMae
import Derived.Test.YtkcpclmkbmeigaaGreatMab
import Derived.BigRegion
import Derived.Deep.RegionHeldLaw
set_option linter.unusedVariables false
set_option linter.unusedSimpArgs false
set_option maxRecDepth 100000
namespace Go.Proofs.YtkcpclmkbmeigaaGreat.Fd
open Go.RowKit Gm Go.Maps
theorem neq_self2 (z:ByteArray) (w:World):(binOp .neq 9 (.string z) (.string z)).run Tryz.prog w=.ok (.bool false) w:=by
 simp[binOp,Op.stringOp]
theorem int_at {w:World} {a:Option Addr} {n c:Nat} {ts:List Int} (h:Row w 3 1 (.slice a n c) (iC ts)) {i:Nat} (hi:i<ts.length):∃ g,a=some ⟨g,0,none⟩/\g<w.heap.size/\w.cell? ⟨g,i,none⟩=some (.int .i64 ts[i]):=by
 obtain⟨g,ea,hg,hat⟩:=h.at_ (i:=i) (by unfold iC;rw[List.length_map];exact hi)
 have hra:=(hat w rfl).1
 unfold iC at hra
 rw[List.getElem_map] at hra
 exact⟨g,ea,hg,by have:=hra 0 _ rfl;simpa using this⟩
theorem any_next {α:Type} {l:List α} {f:α->Bool} {i:Nat} (hi:i<l.length):(l.take (i+1)).any f=((l.take i).any f||f l[i]):=by
 rw[List.take_succ_eq_append_getElem hi,List.any_append]
 simp
theorem getK_any {K:List CL} (hr:Ris K) (key:ByteArray):(getK K key).2=K.any (fun c=>c.1.toList==key.toList)/\((getK K key).2=false->(getK K key).1=⟨#[]⟩):=by
 by_cases h:∃ c∈K,c.1=key
 ·obtain⟨c,h1,rfl⟩:=h
  rw[getK_yes hr h1]
  refine⟨?_,fun h=>by cases h⟩
  symm
  rw[List.any_eq_true]
  exact⟨c,h1,by simp⟩
 ·have h2:∀ c∈K,c.1≠key:=fun c h1 e=>h ⟨c,h1,e⟩
  rw[getK_no hr h2]
  refine⟨?_,fun _=>rfl⟩
  symm
  rw[Bool.eq_false_iff]
  intro h3
  rw[List.any_eq_true] at h3
  obtain⟨c,h4,h5⟩:=h3
  exact h2 c h4 (tl_eq.1 h5)
theorem srt_up {l:List Int} (h:l.Nodup) {i:Nat} (hi:i+1<(srtF l).length):(srtF l)[i]<(srtF l)[i+1]:=by
 have h0:(l.mergeSort fun x y=>decide (x<=y)).Pairwise fun x y=>decide (x<=y)=true:=List.pairwise_mergeSort (fun a b c h1 h2=>by simp only[decide_eq_true_eq] at *;omega) (fun a b=>by simp only[Bool.or_eq_true,decide_eq_true_eq];omega) _
 have h1:(srtF l).Pairwise (fun x y=>x<=y):=h0.imp (by simp)
 have h2:(srtF l).Nodup:=(List.mergeSort_perm _ _).nodup_iff.2 h
 have h3:=List.pairwise_iff_getElem.1 h1 i (i+1) (by omega) hi (by omega)
 have h4:=List.pairwise_iff_getElem.1 h2 i (i+1) (by omega) hi (by omega)
 omega
section
variable {w w0:World}{W:Nat->Prop}{fb pb:Nat}{K:List CL}{G:List Gt}{B:List Bk}{n:Int}{vc vb:Value}
set_option maxHeartbeats 8000000 in
theorem stands_any (hf:Fo W w fb K G n) (hp:PlO w0 w pb vc vb ⟨K,B,n⟩) (htx:∀ t,(∃ g∈G,g.txn=t)↔∃ x∈B,x.tx=t) (hk:K.length<=900) (hg:G.length<=900) (hb:B.length<=900) (key:ByteArray):Calls Tryz.prog 26 #[.pointer (some ⟨fb,0,none⟩),.pointer (some ⟨pb,0,none⟩),.string key] w fun e w'=>e=.returned (.bool true)/\Below w.heap.size w w':=by
 have HF:Hid (Fo W w fb K G n):=hf
 obtain⟨ac,cc,ec,_⟩:=hp.rc.sl
 obtain⟨ab,cb,eb,_⟩:=hp.rb.sl
 rw[List.length_map] at ec eb
 dsimp only at ec eb
 subst ec eb
 have HP:Hid (∀ wx,Below w.heap.size w wx->PlO w0 wx pb (.slice ac K.length cc) (.slice ab B.length cb) ⟨K,B,n⟩):=fun wx hb=>hp.below hb
 have HU:Hid (Ris K):=hf.up
 have HGa:Hid ((getK K key).2=K.any (fun c=>c.1.toList==key.toList)/\((getK K key).2=false->(getK K key).1=⟨#[]⟩)):=getK_any hf.up key
 have HGy:Hid (∀ i (h:i<K.length),(K[i].1.toList==key.toList)=true->(getK K key).1=K[i].2):=fun i h e=>by
  have e:=tl_eq.1 e
  rw[← e,getK_yes hf.up (List.getElem_mem h)]
 obtain⟨ts,hts⟩:∃ ts,srtF (G.map (·.txn))=ts:=⟨_,rfl⟩
 have HTs:Hid (∀ i (h:i+1<ts.length),ts[i]<ts[i+1]):=by subst hts;exact fun i h=>srt_up (List.pairwise_map.2 hf.nd) h
 have HTm:Hid (∀ t,t∈ts↔∃ x∈B,x.tx=t):=by subst hts;exact fun t=>by rw[mem_srtF,List.mem_map];exact htx t
 have HTl:Hid (ts.length<=900):=by subst hts;show _<=_;rw[srtF_len,List.length_map];exact hg
 have mixed:Tryz.prog.follows .mixedOrders=true:=by kernel_rfl
 have CG:Hid (∀ wx,Below w.heap.size w wx->Calls Tryz.prog 34 #[.pointer (some ⟨fb,0,none⟩),.string key] wx fun e w'=>e=.returned (.tuple #[.string (getK K key).1,.bool (getK K key).2])/\Below wx.heap.size wx w'):=fun wx hb=>Get_any (HF.out.bel hb) key (by omega)
 have CO:Hid (∀ wx,Below w.heap.size w wx->Calls Tryz.prog 37 #[.pointer (some ⟨fb,0,none⟩)] wx fun e w'=>RwI wx e w' ts):=by subst hts;exact fun wx hb=>Going_any (HF.out.bel hb) (by omega)
 have CC:Hid (∀ wx,Below w.heap.size w wx->Calls Tryz.prog 35 #[.pointer (some ⟨fb,0,none⟩)] wx fun e w'=>ClE wx e w' K):=fun wx hb=>Cells_any (HF.out.bel hb) (by omega)
 have CN:Hid (∀ wx,Below w.heap.size w wx->Calls Tryz.prog 36 #[.pointer (some ⟨fb,0,none⟩)] wx fun e w'=>e=.returned (.int .i64 n)/\w'=wx):=fun wx hb=>Count_any (HF.out.bel hb)
 have CS:Hid (∀ wx v1 v2,Row wx 73 2 v1 (K.map encC)->Row wx 73 2 v2 (K.map encC)->Calls Tryz.prog 30 #[v1,v2] wx fun e w'=>e=.returned (.bool true)/\Below wx.heap.size wx w'):=fun wx v1 v2 r1 r2=>by
  have h:=same_any (Rv.of_row r1) (Rv.of_row r2) (by omega) (by omega)
  rw[show sameK K K=true by unfold sameK;exact decide_eq_true rfl] at h
  exact h
 clear hf hp htx hg hts
 generalize getK K key=gk at *
 obtain⟨gv,gi⟩:=gk
 dsimp only at HGa HGy CG
 go_enter Tryz.func26,Tryz.ntmps26
 go_wp2_with (go_at_call 34;refine(CG.out _ (Below.refl _ _)).mono ?_;rintro e w1 ⟨rfl,b1⟩;have B1:Hid (Below w.heap.size w w1):=b1;clear b1)
 go_loopg [9,10] K.length (fun k vh vi wr=>∃ i:Nat,vi=.int .i64 (i:Int)/\K.length-i<=k/\i<=K.length/\vh=.bool ((K.take i).any fun c=>c.1.toList==key.toList)/\Below w.heap.size w wr)
 case atStart=>exact⟨0,rfl,by omega,by omega,rfl,B1.out⟩
 case round =>
  clear B1
  obtain⟨i,rfl,hkk,him,rfl,hB⟩:=hrel
  have HB:Hid (Below w.heap.size w wr):=hB
  have PW:=HP.out wr hB
  have y0:wr.cell? ⟨pb,0,none⟩=some (.slice ac K.length cc):=PW.is.c 0
  clear hB
  by_cases hlt:i<K.length
  ·have hltI:(i:Int)<(K.length:Int):=by omega
   obtain⟨g,o,rfl,_,x0,x1⟩:=(Rv.of_row PW.rc).at_ hlt
   have HAn:Hid ((K.take (i+1)).any (fun c=>c.1.toList==key.toList)=((K.take i).any (fun c=>c.1.toList==key.toList)||(K[i].1.toList==key.toList))):=any_next hlt
   have HGi:Hid ((K[i].1.toList==key.toList)=true->gv=K[i].2):=HGy.out i hlt
   clear PW
   generalize K[i].1=ka at *
   generalize K[i].2=kb at *
   generalize hbb:(ka.toList==key.toList)=bb at *
   cases bb with
   | true =>
    have e9:gv=kb:=HGi.out rfl
    subst e9
    have hne:=fun wx=>neq_self2 gv wx
    go_wp2
    go_roundg (K.length-(i+1))
    case measure=>omega
    case rel=>exact⟨i+1,by first |rfl |go_num,Nat.le_refl _,by omega,by rw[HAn.out,Bool.or_true],HB.out⟩
   | false =>
    go_wp2
    go_roundg (K.length-(i+1))
    case measure=>omega
    case rel=>exact⟨i+1,by first |rfl |go_num,Nat.le_refl _,by omega,by rw[HAn.out,Bool.or_false],HB.out⟩
  ·have hltI:¬ (i:Int)<(K.length:Int):=by omega
   rw[List.take_of_length_le (show K.length<=i by omega)]
   rw[← HGa.out.1]
   go_wp2_with (go_at_call 37;refine(CO.out _ HB.out).mono ?_;rintro e w2 ⟨⟨v2,rfl,r2,o2⟩,b2⟩;obtain⟨ag,cg,eg,_⟩:=r2.sl;subst eg;have B2:Hid (Below w.heap.size w w2/\Row w2 3 1 (.slice ag (iC ts).length cg) (iC ts)):=⟨thn HB.out b2,r2⟩;clear b2 r2 o2)
   have hil:(iC ts).length=ts.length:=by unfold iC;exact List.length_map ..
   rw[hil] at B2 ⊢
   clear hil y0 PW
   go_loopg [12] ts.length (fun k vi wr=>∃ i:Nat,vi=.int .i64 (i:Int)/\ts.length-i<=k/\i<=ts.length/\Below w2.heap.size w2 wr)
   case atStart=>exact⟨0,rfl,by omega,by omega,Below.refl _ _⟩
   case round =>
    clear hkk him hlt hltI
    obtain⟨i,rfl,hkk,him,hB⟩:=hrel
    have HB2:Hid (Below w2.heap.size w2 wr):=hB
    clear hB
    have htl:=HTl.out
    by_cases hlt:i<ts.length
    ·have hltI:(i:Int)<(ts.length:Int):=by omega
     have HXi:Hid (B.any (fun x=>x.tx==ts[i])=true):=by
      obtain⟨x,h1,h2⟩:=(HTm.out ts[i]).1 (List.getElem_mem hlt)
      show _=_
      rw[List.any_eq_true]
      exact⟨x,h1,by simpa using h2⟩
     go_wp2
     go_loopg [13,14] B.length (fun k vt vi wr2=>∃ k':Nat,vi=.int .i64 (k':Int)/\B.length-k'<=k/\k'<=B.length/\vt=.bool ((B.take k').any fun x=>x.tx==ts[i])/\Below w2.heap.size w2 wr2)
     case atStart=>exact⟨0,rfl,by omega,by omega,rfl,HB2.out⟩
     case round =>
      obtain⟨k,rfl,hk1,hk2,rfl,hB⟩:=hrel
      have HB3:Hid (Below w2.heap.size w2 wr):=hB
      have PW:=HP.out wr (thn B2.out.1 hB)
      have y1:wr.cell? ⟨pb,1,none⟩=some (.slice ab B.length cb):=PW.is.c 1
      clear hB
      obtain⟨gg,rfl,_,x1⟩:=int_at (B2.out.2.bel HB3.out) hlt
      by_cases hl2:k<B.length
      ·have hl2I:(k:Int)<(B.length:Int):=by omega
       obtain⟨gb,rfl,hat⟩:=book_at (g:=0) PW.rb hl2
       have x2:wr.cell? ⟨gb,k*13+1,none⟩=some (.int .i64 B[k].tx):=hat wr (Below.refl _ _) 1 _ rfl
       have HAn:Hid ((B.take (k+1)).any (fun x=>x.tx==ts[i])=((B.take k).any (fun x=>x.tx==ts[i])||(B[k].tx==ts[i]))):=any_next hl2
       have d1:wr.drew.cell? ⟨gg,i,none⟩=some (.int .i64 ts[i]):=x1
       have d2:wr.drew.cell? ⟨gb,k*13+1,none⟩=some (.int .i64 B[k].tx):=x2
       have d3:wr.drew.cell? ⟨pb,1,none⟩=some (.slice (some ⟨gb,0,none⟩) B.length cb):=y1
       clear hat PW
       generalize B[k].tx=bt at *
       generalize ((B.take k).any fun x=>x.tx==ts[i])=tb at *
       generalize ts[i]=tv at *
       generalize hbb:(bt==tv)=bb at *
       cases tb with
       | true =>
        go_wp2_with fail
        go_big_region
        all_goals
         go_wp2
         go_roundg (B.length-(k+1))
         case measure=>omega
         case rel=>exact⟨k+1,by first |rfl |go_num,Nat.le_refl _,by omega,by rw[HAn.out,Bool.true_or],bdr HB3.out 1⟩
       | false =>
        go_wp2_with fail
        go_big_region
        all_goals
         go_wp2
         go_roundg (B.length-(k+1))
         case measure=>omega
         case rel=>exact⟨k+1,by first |rfl |go_num,Nat.le_refl _,by omega,by rw[HAn.out,Bool.false_or],bdr HB3.out 1⟩
      ·have hl2I:¬ (k:Int)<(B.length:Int):=by omega
       rw[List.take_of_length_le (show B.length<=k by omega),HXi.out]
       clear PW
       rcases i with _ |i
       ·have d1:wr.drew.cell? ⟨gg,0,none⟩=some (.int .i64 ts[0]):=x1
        go_wp2_with fail
        go_big_region
        all_goals
         go_wp2
         go_roundg (ts.length-1)
         case measure=>omega
         case rel=>exact⟨1,by first |rfl |go_num,Nat.le_refl _,by omega,bdr HB3.out 1⟩
       ·obtain⟨g3,e3,_,x3⟩:=int_at (B2.out.2.bel HB3.out) (i:=i) (by omega)
        cases e3
        have hup:=HTs.out i hlt
        have e4:((i+1:Nat):Int)=(i:Int)+1:=by omega
        have e5:((i:Int)+1).toNat=i+1:=by omega
        have hnge:¬ ts[i+1]<=ts[i]:=by omega
        have hpos:(0:Int)<(i:Int)+1:=by omega
        rw[e4]
        have d1:wr.drew.cell? ⟨gg,i+1,none⟩=some (.int .i64 ts[i+1]):=x1
        have d3:wr.drew.cell? ⟨gg,i,none⟩=some (.int .i64 ts[i]):=x3
        generalize ts[i]=t0 at *
        generalize ts[i+1]=t1 at *
        go_wp2_with fail
        go_big_region
        all_goals
         go_wp2
         go_roundg (ts.length-(i+2))
         case measure=>omega
         case rel=>exact⟨i+2,by first |rfl |go_num,Nat.le_refl _,by omega,bdr HB3.out 1⟩
    ·have hltI:¬ (i:Int)<(ts.length:Int):=by omega
     go_wp2
     clear hkk him hlt hltI
     go_loopg [15] B.length (fun k vi wr=>∃ i:Nat,vi=.int .i64 (i:Int)/\B.length-i<=k/\i<=B.length/\Below w2.heap.size w2 wr)
     case atStart=>exact⟨0,rfl,by omega,by omega,HB2.out⟩
     case round =>
      clear HB2
      obtain⟨i,rfl,hkk,him,hB⟩:=hrel
      have HB2:Hid (Below w2.heap.size w2 wr):=hB
      have PV:=HP.out wr (thn B2.out.1 hB)
      have y1:wr.cell? ⟨pb,1,none⟩=some (.slice ab B.length cb):=PV.is.c 1
      clear hB PV
      by_cases hlt:i<B.length
      ·have hltI:(i:Int)<(B.length:Int):=by omega
       have HXi:Hid (ts.any (fun t=>B[i].tx==t)=true):=by
        have h1:=(HTm.out B[i].tx).2 ⟨_,List.getElem_mem hlt,rfl⟩
        show _=_
        rw[List.any_eq_true]
        exact⟨_,h1,by simp⟩
       go_wp2
       clear y1
       go_loopg [16,17] ts.length (fun k vt vi wr2=>∃ k':Nat,vi=.int .i64 (k':Int)/\ts.length-k'<=k/\k'<=ts.length/\vt=.bool ((ts.take k').any fun t=>B[i].tx==t)/\Below w2.heap.size w2 wr2)
       case atStart=>exact⟨0,rfl,by omega,by omega,rfl,HB2.out⟩
       case round =>
        obtain⟨k,rfl,hk1,hk2,rfl,hB⟩:=hrel
        have HB3:Hid (Below w2.heap.size w2 wr):=hB
        have PW:=HP.out wr (thn B2.out.1 hB)
        have y1:wr.cell? ⟨pb,1,none⟩=some (.slice ab B.length cb):=PW.is.c 1
        clear hB
        obtain⟨gb,rfl,hat⟩:=book_at (g:=0) PW.rb hlt
        have x2:wr.cell? ⟨gb,i*13+1,none⟩=some (.int .i64 B[i].tx):=hat wr (Below.refl _ _) 1 _ rfl
        by_cases hl2:k<ts.length
        ·have hl2I:(k:Int)<(ts.length:Int):=by omega
         obtain⟨gg,rfl,_,x1⟩:=int_at (B2.out.2.bel HB3.out) hl2
         have HAn:Hid ((ts.take (k+1)).any (fun t=>B[i].tx==t)=((ts.take k).any (fun t=>B[i].tx==t)||(B[i].tx==ts[k]))):=any_next hl2
         have d1:wr.drew.cell? ⟨gg,k,none⟩=some (.int .i64 ts[k]):=x1
         have d2:wr.drew.cell? ⟨gb,i*13+1,none⟩=some (.int .i64 B[i].tx):=x2
         have d3:wr.drew.cell? ⟨pb,1,none⟩=some (.slice (some ⟨gb,0,none⟩) B.length cb):=y1
         clear hat PW
         generalize ((ts.take k).any fun t=>B[i].tx==t)=tb at *
         generalize B[i].tx=bt at *
         generalize ts[k]=tv at *
         generalize hbb:(bt==tv)=bb at *
         cases tb with
         | true =>
          go_wp2_with fail
          go_big_region
          all_goals
           go_wp2
           go_roundg (ts.length-(k+1))
           case measure=>omega
           case rel=>exact⟨k+1,by first |rfl |go_num,Nat.le_refl _,by omega,by rw[HAn.out,Bool.true_or],bdr HB3.out 1⟩
         | false =>
          go_wp2_with fail
          go_big_region
          all_goals
           go_wp2
           go_roundg (ts.length-(k+1))
           case measure=>omega
           case rel=>exact⟨k+1,by first |rfl |go_num,Nat.le_refl _,by omega,by rw[HAn.out,Bool.false_or],bdr HB3.out 1⟩
        ·have hl2I:¬ (k:Int)<(ts.length:Int):=by omega
         rw[List.take_of_length_le (show ts.length<=k by omega),HXi.out]
         clear PW hat x2 y1
         go_wp2
         go_roundg (B.length-(i+1))
         case measure=>omega
         case rel=>exact⟨i+1,by first |rfl |go_num,Nat.le_refl _,by omega,HB3.out⟩
      ·have hltI:¬ (i:Int)<(B.length:Int):=by omega
       have HX:Hid (Below w.heap.size w wr):=thn B2.out.1 HB2.out
       clear B2 HB2 HTs HTm HTl
       cases gi with
       | true =>
        go_wp2
        have HXd:Hid (Below w.heap.size w wr.drew):=bdr HX.out 1
        have w0':wr.drew.cell? ⟨pb,0,none⟩=some (.slice ac K.length cc):=(HP.out _ HXd.out).is.c 0
        have w2':wr.drew.cell? ⟨pb,2,none⟩=some (.int .i64 n):=(HP.out _ HXd.out).is.c 2
        have ecl:(K.map encC).length=K.length:=List.length_map ..
        refine wp_region_held_drew (S:=fun wx:World=>wx.cell? ⟨pb,0,none⟩=some (.slice ac K.length cc)/\wx.cell? ⟨pb,2,none⟩=some (.int .i64 n)) (by kernel_rfl) ⟨w0',w2'⟩ (fun hHeld=>?_)
        refine wpAnyH_take (i:=0) (oi:=_) (v:=?_) rfl (by kernel_rfl) (by kernel_rfl) (by kernel_rfl) (fun _ _ _ h=>h) (Or.inl ⟨by rfl,?_⟩) hHeld ?_
        rotate_left
        ·(intro w hSw;(try dsimp only at hSw);go_simp;(try with_reducible rfl))
        try simp only[Act.put,List.setIfInBounds_toArray,List.set_cons_zero,List.set_cons_succ,List.getElem_toArray,List.getElem_cons_succ,List.getElem_cons_zero]
        refine wpAnyH_take (i:=1) (oi:=_) (v:=?_) rfl (by kernel_rfl) (by kernel_rfl) (by kernel_rfl) (fun _ _ _ h=>h) (Or.inl ⟨by rfl,?_⟩) hHeld ?_
        rotate_left
        ·(intro w hSw;(try dsimp only at hSw);go_simp;(try with_reducible rfl))
        try simp only[Act.put,List.setIfInBounds_toArray,List.set_cons_zero,List.set_cons_succ,List.getElem_toArray,List.getElem_cons_succ,List.getElem_cons_zero]
        refine wpAnyH_take (i:=2) (oi:=_) (v:=?_) rfl (by kernel_rfl) (by kernel_rfl) (by kernel_rfl) (fun _ _ _ h=>h) (Or.inl ⟨by rfl,?_⟩) hHeld ?_
        rotate_left
        ·(intro w hSw;(try dsimp only at hSw);go_simp;(try with_reducible rfl))
        try simp only[Act.put,List.setIfInBounds_toArray,List.set_cons_zero,List.set_cons_succ,List.getElem_toArray,List.getElem_cons_succ,List.getElem_cons_zero]
        refine wpAnyH_take (i:=3) (oi:=_) (v:=?_) rfl (by kernel_rfl) (by kernel_rfl) (by kernel_rfl) (fun _ _ _ h=>h) (Or.inl ⟨by rfl,?_⟩) hHeld ?_
        rotate_left
        ·(intro w hSw;(try dsimp only at hSw);go_simp;(try with_reducible rfl))
        try simp only[Act.put,List.setIfInBounds_toArray,List.set_cons_zero,List.set_cons_succ,List.getElem_toArray,List.getElem_cons_succ,List.getElem_cons_zero]
        refine wpAnyH_take (i:=4) (oi:=_) (v:=?_) rfl (by kernel_rfl) (by kernel_rfl) (by kernel_rfl) (fun _ _ _ h=>h) (Or.inl ⟨by rfl,?_⟩) hHeld ?_
        rotate_left
        ·(intro w hSw;(try dsimp only at hSw);go_simp;(try with_reducible rfl))
        try simp only[Act.put,List.setIfInBounds_toArray,List.set_cons_zero,List.set_cons_succ,List.getElem_toArray,List.getElem_cons_succ,List.getElem_cons_zero]
        refine wpAnyH_take (i:=5) (oi:=_) (v:=?_) rfl (by kernel_rfl) (by kernel_rfl) (by kernel_rfl) (fun _ _ _ h=>h) (Or.inl ⟨by rfl,?_⟩) hHeld ?_
        rotate_left
        ·(intro w hSw;(try dsimp only at hSw);go_simp;(try with_reducible rfl))
        try simp only[Act.put,List.setIfInBounds_toArray,List.set_cons_zero,List.set_cons_succ,List.getElem_toArray,List.getElem_cons_succ,List.getElem_cons_zero]
        refine wpAnyH_take (i:=6) (oi:=_) (v:=undef) rfl (by kernel_rfl) (by kernel_rfl) (by kernel_rfl) (fun _ _ _ h=>h) (Or.inr ⟨by rfl,rfl⟩) hHeld ?_
        try simp only[Act.put,List.setIfInBounds_toArray,List.set_cons_zero,List.set_cons_succ,List.getElem_toArray,List.getElem_cons_succ,List.getElem_cons_zero]
        refine wpAnyH_take (i:=7) (oi:=_) (v:=undef) rfl (by kernel_rfl) (by kernel_rfl) (by kernel_rfl) (fun _ _ _ h=>h) (Or.inr ⟨by rfl,rfl⟩) hHeld ?_
        try simp only[Act.put,List.setIfInBounds_toArray,List.set_cons_zero,List.set_cons_succ,List.getElem_toArray,List.getElem_cons_succ,List.getElem_cons_zero]
        refine wpAnyH_take (i:=8) (oi:=_) (v:=?_) rfl (by kernel_rfl) (by kernel_rfl) (by kernel_rfl) (fun _ _ _ h=>h) (Or.inl ⟨by rfl,?_⟩) hHeld ?_
        rotate_left
        ·(intro w hSw;(try dsimp only at hSw);go_simp;(try with_reducible rfl))
        try simp only[Act.put,List.setIfInBounds_toArray,List.set_cons_zero,List.set_cons_succ,List.getElem_toArray,List.getElem_cons_succ,List.getElem_cons_zero]
        refine wpAnyH_take (i:=9) (oi:=_) (v:=?_) rfl (by kernel_rfl) (by kernel_rfl) (by kernel_rfl) (fun _ _ _ h=>h) (Or.inl ⟨by rfl,?_⟩) hHeld ?_
        rotate_left
        ·(intro w hSw;(try dsimp only at hSw);go_simp;(try with_reducible rfl))
        try simp only[Act.put,List.setIfInBounds_toArray,List.set_cons_zero,List.set_cons_succ,List.getElem_toArray,List.getElem_cons_succ,List.getElem_cons_zero]
        refine wpAnyH_take (i:=10) (oi:=_) (v:=?_) rfl (by kernel_rfl) (by kernel_rfl) (by kernel_rfl) (fun _ _ _ h=>h) (Or.inl ⟨by rfl,?_⟩) hHeld ?_
        rotate_left
        ·(intro w hSw;(try dsimp only at hSw);go_simp;(try with_reducible rfl))
        try simp only[Act.put,List.setIfInBounds_toArray,List.set_cons_zero,List.set_cons_succ,List.getElem_toArray,List.getElem_cons_succ,List.getElem_cons_zero]
        refine wpAnyH_take (i:=11) (oi:=_) (v:=?_) rfl (by kernel_rfl) (by kernel_rfl) (by kernel_rfl) (fun _ _ _ h=>h) (Or.inl ⟨by rfl,?_⟩) hHeld ?_
        rotate_left
        ·(intro w hSw;(try dsimp only at hSw);go_simp;(try with_reducible rfl))
        try simp only[Act.put,List.setIfInBounds_toArray,List.set_cons_zero,List.set_cons_succ,List.getElem_toArray,List.getElem_cons_succ,List.getElem_cons_zero]
        refine wpAnyH_take (i:=13) (oi:=_) (v:=?_) rfl (by kernel_rfl) (by kernel_rfl) (by kernel_rfl) (fun _ _ _ h=>h) (Or.inl ⟨by rfl,?_⟩) hHeld ?_
        rotate_left
        ·(intro w hSw;(try dsimp only at hSw);go_simp;(try with_reducible rfl))
        try simp only[Act.put,List.setIfInBounds_toArray,List.set_cons_zero,List.set_cons_succ,List.getElem_toArray,List.getElem_cons_succ,List.getElem_cons_zero]
        refine wpAnyH_take (i:=14) (oi:=_) (v:=?_) rfl (by kernel_rfl) (by kernel_rfl) (by kernel_rfl) (fun _ _ _ h=>h) (Or.inl ⟨by rfl,?_⟩) hHeld ?_
        rotate_left
        ·(intro w hSw;(try dsimp only at hSw);go_simp;(try with_reducible rfl))
        try simp only[Act.put,List.setIfInBounds_toArray,List.set_cons_zero,List.set_cons_succ,List.getElem_toArray,List.getElem_cons_succ,List.getElem_cons_zero]
        refine wpAnyH_take (i:=15) (oi:=_) (v:=?_) rfl (by kernel_rfl) (by kernel_rfl) (by kernel_rfl) (fun _ _ _ h=>h) (Or.inl ⟨by rfl,?_⟩) hHeld ?_
        rotate_left
        ·(intro w hSw;(try dsimp only at hSw);go_simp;(try with_reducible rfl))
        try simp only[Act.put,List.setIfInBounds_toArray,List.set_cons_zero,List.set_cons_succ,List.getElem_toArray,List.getElem_cons_succ,List.getElem_cons_zero]
        refine wpAnyH_take (i:=16) (oi:=_) (v:=?_) rfl (by kernel_rfl) (by kernel_rfl) (by kernel_rfl) (fun _ _ _ h=>h) (Or.inl ⟨by rfl,?_⟩) hHeld ?_
        rotate_left
        ·(intro w hSw;(try dsimp only at hSw);go_simp;(try with_reducible rfl))
        try simp only[Act.put,List.setIfInBounds_toArray,List.set_cons_zero,List.set_cons_succ,List.getElem_toArray,List.getElem_cons_succ,List.getElem_cons_zero]
        refine wpAnyH_ready (rs:=[12]) (by kernel_rfl) (by simp) ?_
        refine AllReadyH.cons (o:=_) rfl (fun Kq hK=>?_) AllReadyH.nil
        go_simp
        go_at_call 35
        refine(CC.out _ HXd.out).mono ?_
        rintro e x1 ⟨⟨v1,rfl,q1,o1⟩,b1⟩
        obtain⟨d1,f1,s1,_⟩:=q1.sl
        rw[ecl] at s1
        subst s1
        have X1:Hid (Below w.heap.size w x1/\Row x1 73 2 (.slice d1 K.length f1) (K.map encC)):=⟨thn HXd.out b1,q1⟩
        clear q1 o1 b1
        go_wp2_with fail
        refine hK.out _ _ ⟨(HP.out _ X1.out.1).is.c 0,(HP.out _ X1.out.1).is.c 2⟩ (fun hHeld=>?_)
        clear hK Kq
        try simp only[Act.put,List.setIfInBounds_toArray,List.set_cons_zero,List.set_cons_succ,List.getElem_toArray,List.getElem_cons_succ,List.getElem_cons_zero]
        refine wpAnyH_ready (rs:=[17]) (by kernel_rfl) (by simp) ?_
        refine AllReadyH.cons (o:=_) rfl (fun Kq hK=>?_) AllReadyH.nil
        go_simp
        go_at_call 30
        refine(CS.out _ _ _ X1.out.2 (HP.out _ X1.out.1).rc).mono ?_
        rintro e x2 ⟨rfl,b2⟩
        have X2:Hid (Below w.heap.size w x2):=thn X1.out.1 b2
        clear b2
        go_wp2_with fail
        refine hK.out _ _ ⟨(HP.out _ X2.out).is.c 0,(HP.out _ X2.out).is.c 2⟩ (fun hHeld=>?_)
        clear hK Kq
        try simp only[Act.put,List.setIfInBounds_toArray,List.set_cons_zero,List.set_cons_succ,List.getElem_toArray,List.getElem_cons_succ,List.getElem_cons_zero]
        refine wpAnyH_take (i:=18) (oi:=_) (v:=?_) rfl (by kernel_rfl) (by kernel_rfl) (by kernel_rfl) (fun _ _ _ h=>h) (Or.inl ⟨by rfl,?_⟩) hHeld ?_
        rotate_left
        ·(intro w hSw;(try dsimp only at hSw);go_simp;(try with_reducible rfl))
        try simp only[Act.put,List.setIfInBounds_toArray,List.set_cons_zero,List.set_cons_succ,List.getElem_toArray,List.getElem_cons_succ,List.getElem_cons_zero]
        refine wpAnyH_take (i:=19) (oi:=_) (v:=?_) rfl (by kernel_rfl) (by kernel_rfl) (by kernel_rfl) (fun _ _ _ h=>h) (Or.inl ⟨by rfl,?_⟩) hHeld ?_
        rotate_left
        ·(intro w hSw;(try dsimp only at hSw);go_simp;(try with_reducible rfl))
        try simp only[Act.put,List.setIfInBounds_toArray,List.set_cons_zero,List.set_cons_succ,List.getElem_toArray,List.getElem_cons_succ,List.getElem_cons_zero]
        refine wpAnyH_take (i:=20) (oi:=_) (v:=?_) rfl (by kernel_rfl) (by kernel_rfl) (by kernel_rfl) (fun _ _ _ h=>h) (Or.inl ⟨by rfl,?_⟩) hHeld ?_
        rotate_left
        ·(intro w hSw;(try dsimp only at hSw);go_simp;(try with_reducible rfl))
        try simp only[Act.put,List.setIfInBounds_toArray,List.set_cons_zero,List.set_cons_succ,List.getElem_toArray,List.getElem_cons_succ,List.getElem_cons_zero]
        refine wpAnyH_take (i:=22) (oi:=_) (v:=?_) rfl (by kernel_rfl) (by kernel_rfl) (by kernel_rfl) (fun _ _ _ h=>h) (Or.inl ⟨by rfl,?_⟩) hHeld ?_
        rotate_left
        ·(intro w hSw;(try dsimp only at hSw);go_simp;(try with_reducible rfl))
        try simp only[Act.put,List.setIfInBounds_toArray,List.set_cons_zero,List.set_cons_succ,List.getElem_toArray,List.getElem_cons_succ,List.getElem_cons_zero]
        refine wpAnyH_take (i:=23) (oi:=_) (v:=?_) rfl (by kernel_rfl) (by kernel_rfl) (by kernel_rfl) (fun _ _ _ h=>h) (Or.inl ⟨by rfl,?_⟩) hHeld ?_
        rotate_left
        ·(intro w hSw;(try dsimp only at hSw);go_simp;(try with_reducible rfl))
        try simp only[Act.put,List.setIfInBounds_toArray,List.set_cons_zero,List.set_cons_succ,List.getElem_toArray,List.getElem_cons_succ,List.getElem_cons_zero]
        refine wpAnyH_take (i:=24) (oi:=_) (v:=?_) rfl (by kernel_rfl) (by kernel_rfl) (by kernel_rfl) (fun _ _ _ h=>h) (Or.inl ⟨by rfl,?_⟩) hHeld ?_
        rotate_left
        ·(intro w hSw;(try dsimp only at hSw);go_simp;(try with_reducible rfl))
        try simp only[Act.put,List.setIfInBounds_toArray,List.set_cons_zero,List.set_cons_succ,List.getElem_toArray,List.getElem_cons_succ,List.getElem_cons_zero]
        refine wpAnyH_take (i:=25) (oi:=_) (v:=?_) rfl (by kernel_rfl) (by kernel_rfl) (by kernel_rfl) (fun _ _ _ h=>h) (Or.inl ⟨by rfl,?_⟩) hHeld ?_
        rotate_left
        ·(intro w hSw;(try dsimp only at hSw);go_simp;(try with_reducible rfl))
        try simp only[Act.put,List.setIfInBounds_toArray,List.set_cons_zero,List.set_cons_succ,List.getElem_toArray,List.getElem_cons_succ,List.getElem_cons_zero]
        refine wpAnyH_ready (rs:=[21]) (by kernel_rfl) (by simp) ?_
        refine AllReadyH.cons (o:=_) rfl (fun Kq hK=>?_) AllReadyH.nil
        go_simp
        go_at_call 36
        refine(CN.out _ X2.out).mono ?_
        rintro e x4 ⟨rfl,rfl⟩
        go_wp2_with fail
        refine hK.out _ _ ⟨(HP.out _ X2.out).is.c 0,(HP.out _ X2.out).is.c 2⟩ (fun hHeld=>?_)
        clear hK Kq
        try simp only[Act.put,List.setIfInBounds_toArray,List.set_cons_zero,List.set_cons_succ,List.getElem_toArray,List.getElem_cons_succ,List.getElem_cons_zero]
        refine wpAnyH_take (i:=26) (oi:=_) (v:=?_) rfl (by kernel_rfl) (by kernel_rfl) (by kernel_rfl) (fun _ _ _ h=>h) (Or.inl ⟨by rfl,?_⟩) hHeld ?_
        rotate_left
        ·(intro w hSw;(try dsimp only at hSw);go_simp;(try with_reducible rfl))
        try simp only[Act.put,List.setIfInBounds_toArray,List.set_cons_zero,List.set_cons_succ,List.getElem_toArray,List.getElem_cons_succ,List.getElem_cons_zero]
        refine wpAnyH_take (i:=27) (oi:=_) (v:=?_) rfl (by kernel_rfl) (by kernel_rfl) (by kernel_rfl) (fun _ _ _ h=>h) (Or.inl ⟨by rfl,?_⟩) hHeld ?_
        rotate_left
        ·(intro w hSw;(try dsimp only at hSw);go_simp;(try with_reducible rfl))
        try simp only[Act.put,List.setIfInBounds_toArray,List.set_cons_zero,List.set_cons_succ,List.getElem_toArray,List.getElem_cons_succ,List.getElem_cons_zero]
        refine wpAnyH_take (i:=28) (oi:=_) (v:=?_) rfl (by kernel_rfl) (by kernel_rfl) (by kernel_rfl) (fun _ _ _ h=>h) (Or.inl ⟨by rfl,?_⟩) hHeld ?_
        rotate_left
        ·(intro w hSw;(try dsimp only at hSw);go_simp;(try with_reducible rfl))
        try simp only[Act.put,List.setIfInBounds_toArray,List.set_cons_zero,List.set_cons_succ,List.getElem_toArray,List.getElem_cons_succ,List.getElem_cons_zero]
        refine wpAnyH_done (by kernel_rfl) ?_ _
        go_wp2
        go_ret
        exact⟨rfl,X2.out⟩
       | false =>
        obtain rfl:gv=⟨#[]⟩:=HGa.out.2 rfl
        go_wp2
        have HXd:Hid (Below w.heap.size w wr.drew):=bdr HX.out 1
        have w0':wr.drew.cell? ⟨pb,0,none⟩=some (.slice ac K.length cc):=(HP.out _ HXd.out).is.c 0
        have w2':wr.drew.cell? ⟨pb,2,none⟩=some (.int .i64 n):=(HP.out _ HXd.out).is.c 2
        have ecl:(K.map encC).length=K.length:=List.length_map ..
        refine wp_region_held_drew (S:=fun wx:World=>wx.cell? ⟨pb,0,none⟩=some (.slice ac K.length cc)/\wx.cell? ⟨pb,2,none⟩=some (.int .i64 n)) (by kernel_rfl) ⟨w0',w2'⟩ (fun hHeld=>?_)
        refine wpAnyH_take (i:=0) (oi:=_) (v:=?_) rfl (by kernel_rfl) (by kernel_rfl) (by kernel_rfl) (fun _ _ _ h=>h) (Or.inl ⟨by rfl,?_⟩) hHeld ?_
        rotate_left
        ·(intro w hSw;(try dsimp only at hSw);go_simp;(try with_reducible rfl))
        try simp only[Act.put,List.setIfInBounds_toArray,List.set_cons_zero,List.set_cons_succ,List.getElem_toArray,List.getElem_cons_succ,List.getElem_cons_zero]
        refine wpAnyH_take (i:=1) (oi:=_) (v:=?_) rfl (by kernel_rfl) (by kernel_rfl) (by kernel_rfl) (fun _ _ _ h=>h) (Or.inl ⟨by rfl,?_⟩) hHeld ?_
        rotate_left
        ·(intro w hSw;(try dsimp only at hSw);go_simp;(try with_reducible rfl))
        try simp only[Act.put,List.setIfInBounds_toArray,List.set_cons_zero,List.set_cons_succ,List.getElem_toArray,List.getElem_cons_succ,List.getElem_cons_zero]
        refine wpAnyH_take (i:=2) (oi:=_) (v:=?_) rfl (by kernel_rfl) (by kernel_rfl) (by kernel_rfl) (fun _ _ _ h=>h) (Or.inl ⟨by rfl,?_⟩) hHeld ?_
        rotate_left
        ·(intro w hSw;(try dsimp only at hSw);go_simp;(try with_reducible rfl))
        try simp only[Act.put,List.setIfInBounds_toArray,List.set_cons_zero,List.set_cons_succ,List.getElem_toArray,List.getElem_cons_succ,List.getElem_cons_zero]
        refine wpAnyH_take (i:=3) (oi:=_) (v:=?_) rfl (by kernel_rfl) (by kernel_rfl) (by kernel_rfl) (fun _ _ _ h=>h) (Or.inl ⟨by rfl,?_⟩) hHeld ?_
        rotate_left
        ·(intro w hSw;(try dsimp only at hSw);go_simp;(try with_reducible rfl))
        try simp only[Act.put,List.setIfInBounds_toArray,List.set_cons_zero,List.set_cons_succ,List.getElem_toArray,List.getElem_cons_succ,List.getElem_cons_zero]
        refine wpAnyH_take (i:=4) (oi:=_) (v:=?_) rfl (by kernel_rfl) (by kernel_rfl) (by kernel_rfl) (fun _ _ _ h=>h) (Or.inl ⟨by rfl,?_⟩) hHeld ?_
        rotate_left
        ·(intro w hSw;(try dsimp only at hSw);go_simp;(try with_reducible rfl))
        try simp only[Act.put,List.setIfInBounds_toArray,List.set_cons_zero,List.set_cons_succ,List.getElem_toArray,List.getElem_cons_succ,List.getElem_cons_zero]
        refine wpAnyH_take (i:=5) (oi:=_) (v:=?_) rfl (by kernel_rfl) (by kernel_rfl) (by kernel_rfl) (fun _ _ _ h=>h) (Or.inl ⟨by rfl,?_⟩) hHeld ?_
        rotate_left
        ·(intro w hSw;(try dsimp only at hSw);go_simp;(try with_reducible rfl))
        try simp only[Act.put,List.setIfInBounds_toArray,List.set_cons_zero,List.set_cons_succ,List.getElem_toArray,List.getElem_cons_succ,List.getElem_cons_zero]
        refine wpAnyH_take (i:=6) (oi:=_) (v:=?_) rfl (by kernel_rfl) (by kernel_rfl) (by kernel_rfl) (fun _ _ _ h=>h) (Or.inl ⟨by rfl,?_⟩) hHeld ?_
        rotate_left
        ·(intro w hSw;(try dsimp only at hSw);go_simp;(try with_reducible rfl))
        try simp only[Act.put,List.setIfInBounds_toArray,List.set_cons_zero,List.set_cons_succ,List.getElem_toArray,List.getElem_cons_succ,List.getElem_cons_zero]
        refine wpAnyH_take (i:=7) (oi:=_) (v:=?_) rfl (by kernel_rfl) (by kernel_rfl) (by kernel_rfl) (fun _ _ _ h=>h) (Or.inl ⟨by rfl,?_⟩) hHeld ?_
        rotate_left
        ·(intro w hSw;(try dsimp only at hSw);go_simp;(try with_reducible rfl))
        try simp only[Act.put,List.setIfInBounds_toArray,List.set_cons_zero,List.set_cons_succ,List.getElem_toArray,List.getElem_cons_succ,List.getElem_cons_zero]
        refine wpAnyH_take (i:=8) (oi:=_) (v:=?_) rfl (by kernel_rfl) (by kernel_rfl) (by kernel_rfl) (fun _ _ _ h=>h) (Or.inl ⟨by rfl,?_⟩) hHeld ?_
        rotate_left
        ·(intro w hSw;(try dsimp only at hSw);go_simp;(try with_reducible rfl))
        try simp only[Act.put,List.setIfInBounds_toArray,List.set_cons_zero,List.set_cons_succ,List.getElem_toArray,List.getElem_cons_succ,List.getElem_cons_zero]
        refine wpAnyH_take (i:=9) (oi:=_) (v:=?_) rfl (by kernel_rfl) (by kernel_rfl) (by kernel_rfl) (fun _ _ _ h=>h) (Or.inl ⟨by rfl,?_⟩) hHeld ?_
        rotate_left
        ·(intro w hSw;(try dsimp only at hSw);go_simp;(try with_reducible rfl))
        try simp only[Act.put,List.setIfInBounds_toArray,List.set_cons_zero,List.set_cons_succ,List.getElem_toArray,List.getElem_cons_succ,List.getElem_cons_zero]
        refine wpAnyH_take (i:=10) (oi:=_) (v:=?_) rfl (by kernel_rfl) (by kernel_rfl) (by kernel_rfl) (fun _ _ _ h=>h) (Or.inl ⟨by rfl,?_⟩) hHeld ?_
        rotate_left
        ·(intro w hSw;(try dsimp only at hSw);go_simp;(try with_reducible rfl))
        try simp only[Act.put,List.setIfInBounds_toArray,List.set_cons_zero,List.set_cons_succ,List.getElem_toArray,List.getElem_cons_succ,List.getElem_cons_zero]
        refine wpAnyH_take (i:=11) (oi:=_) (v:=?_) rfl (by kernel_rfl) (by kernel_rfl) (by kernel_rfl) (fun _ _ _ h=>h) (Or.inl ⟨by rfl,?_⟩) hHeld ?_
        rotate_left
        ·(intro w hSw;(try dsimp only at hSw);go_simp;(try with_reducible rfl))
        try simp only[Act.put,List.setIfInBounds_toArray,List.set_cons_zero,List.set_cons_succ,List.getElem_toArray,List.getElem_cons_succ,List.getElem_cons_zero]
        refine wpAnyH_take (i:=13) (oi:=_) (v:=?_) rfl (by kernel_rfl) (by kernel_rfl) (by kernel_rfl) (fun _ _ _ h=>h) (Or.inl ⟨by rfl,?_⟩) hHeld ?_
        rotate_left
        ·(intro w hSw;(try dsimp only at hSw);go_simp;(try with_reducible rfl))
        try simp only[Act.put,List.setIfInBounds_toArray,List.set_cons_zero,List.set_cons_succ,List.getElem_toArray,List.getElem_cons_succ,List.getElem_cons_zero]
        refine wpAnyH_take (i:=14) (oi:=_) (v:=?_) rfl (by kernel_rfl) (by kernel_rfl) (by kernel_rfl) (fun _ _ _ h=>h) (Or.inl ⟨by rfl,?_⟩) hHeld ?_
        rotate_left
        ·(intro w hSw;(try dsimp only at hSw);go_simp;(try with_reducible rfl))
        try simp only[Act.put,List.setIfInBounds_toArray,List.set_cons_zero,List.set_cons_succ,List.getElem_toArray,List.getElem_cons_succ,List.getElem_cons_zero]
        refine wpAnyH_take (i:=15) (oi:=_) (v:=?_) rfl (by kernel_rfl) (by kernel_rfl) (by kernel_rfl) (fun _ _ _ h=>h) (Or.inl ⟨by rfl,?_⟩) hHeld ?_
        rotate_left
        ·(intro w hSw;(try dsimp only at hSw);go_simp;(try with_reducible rfl))
        try simp only[Act.put,List.setIfInBounds_toArray,List.set_cons_zero,List.set_cons_succ,List.getElem_toArray,List.getElem_cons_succ,List.getElem_cons_zero]
        refine wpAnyH_take (i:=16) (oi:=_) (v:=?_) rfl (by kernel_rfl) (by kernel_rfl) (by kernel_rfl) (fun _ _ _ h=>h) (Or.inl ⟨by rfl,?_⟩) hHeld ?_
        rotate_left
        ·(intro w hSw;(try dsimp only at hSw);go_simp;(try with_reducible rfl))
        try simp only[Act.put,List.setIfInBounds_toArray,List.set_cons_zero,List.set_cons_succ,List.getElem_toArray,List.getElem_cons_succ,List.getElem_cons_zero]
        refine wpAnyH_ready (rs:=[12]) (by kernel_rfl) (by simp) ?_
        refine AllReadyH.cons (o:=_) rfl (fun Kq hK=>?_) AllReadyH.nil
        go_simp
        go_at_call 35
        refine(CC.out _ HXd.out).mono ?_
        rintro e x1 ⟨⟨v1,rfl,q1,o1⟩,b1⟩
        obtain⟨d1,f1,s1,_⟩:=q1.sl
        rw[ecl] at s1
        subst s1
        have X1:Hid (Below w.heap.size w x1/\Row x1 73 2 (.slice d1 K.length f1) (K.map encC)):=⟨thn HXd.out b1,q1⟩
        clear q1 o1 b1
        go_wp2_with fail
        refine hK.out _ _ ⟨(HP.out _ X1.out.1).is.c 0,(HP.out _ X1.out.1).is.c 2⟩ (fun hHeld=>?_)
        clear hK Kq
        try simp only[Act.put,List.setIfInBounds_toArray,List.set_cons_zero,List.set_cons_succ,List.getElem_toArray,List.getElem_cons_succ,List.getElem_cons_zero]
        refine wpAnyH_ready (rs:=[17]) (by kernel_rfl) (by simp) ?_
        refine AllReadyH.cons (o:=_) rfl (fun Kq hK=>?_) AllReadyH.nil
        go_simp
        go_at_call 30
        refine(CS.out _ _ _ X1.out.2 (HP.out _ X1.out.1).rc).mono ?_
        rintro e x2 ⟨rfl,b2⟩
        have X2:Hid (Below w.heap.size w x2):=thn X1.out.1 b2
        clear b2
        go_wp2_with fail
        refine hK.out _ _ ⟨(HP.out _ X2.out).is.c 0,(HP.out _ X2.out).is.c 2⟩ (fun hHeld=>?_)
        clear hK Kq
        try simp only[Act.put,List.setIfInBounds_toArray,List.set_cons_zero,List.set_cons_succ,List.getElem_toArray,List.getElem_cons_succ,List.getElem_cons_zero]
        refine wpAnyH_take (i:=18) (oi:=_) (v:=?_) rfl (by kernel_rfl) (by kernel_rfl) (by kernel_rfl) (fun _ _ _ h=>h) (Or.inl ⟨by rfl,?_⟩) hHeld ?_
        rotate_left
        ·(intro w hSw;(try dsimp only at hSw);go_simp;(try with_reducible rfl))
        try simp only[Act.put,List.setIfInBounds_toArray,List.set_cons_zero,List.set_cons_succ,List.getElem_toArray,List.getElem_cons_succ,List.getElem_cons_zero]
        refine wpAnyH_take (i:=19) (oi:=_) (v:=?_) rfl (by kernel_rfl) (by kernel_rfl) (by kernel_rfl) (fun _ _ _ h=>h) (Or.inl ⟨by rfl,?_⟩) hHeld ?_
        rotate_left
        ·(intro w hSw;(try dsimp only at hSw);go_simp;(try with_reducible rfl))
        try simp only[Act.put,List.setIfInBounds_toArray,List.set_cons_zero,List.set_cons_succ,List.getElem_toArray,List.getElem_cons_succ,List.getElem_cons_zero]
        refine wpAnyH_take (i:=20) (oi:=_) (v:=?_) rfl (by kernel_rfl) (by kernel_rfl) (by kernel_rfl) (fun _ _ _ h=>h) (Or.inl ⟨by rfl,?_⟩) hHeld ?_
        rotate_left
        ·(intro w hSw;(try dsimp only at hSw);go_simp;(try with_reducible rfl))
        try simp only[Act.put,List.setIfInBounds_toArray,List.set_cons_zero,List.set_cons_succ,List.getElem_toArray,List.getElem_cons_succ,List.getElem_cons_zero]
        refine wpAnyH_take (i:=22) (oi:=_) (v:=?_) rfl (by kernel_rfl) (by kernel_rfl) (by kernel_rfl) (fun _ _ _ h=>h) (Or.inl ⟨by rfl,?_⟩) hHeld ?_
        rotate_left
        ·(intro w hSw;(try dsimp only at hSw);go_simp;(try with_reducible rfl))
        try simp only[Act.put,List.setIfInBounds_toArray,List.set_cons_zero,List.set_cons_succ,List.getElem_toArray,List.getElem_cons_succ,List.getElem_cons_zero]
        refine wpAnyH_take (i:=23) (oi:=_) (v:=?_) rfl (by kernel_rfl) (by kernel_rfl) (by kernel_rfl) (fun _ _ _ h=>h) (Or.inl ⟨by rfl,?_⟩) hHeld ?_
        rotate_left
        ·(intro w hSw;(try dsimp only at hSw);go_simp;(try with_reducible rfl))
        try simp only[Act.put,List.setIfInBounds_toArray,List.set_cons_zero,List.set_cons_succ,List.getElem_toArray,List.getElem_cons_succ,List.getElem_cons_zero]
        refine wpAnyH_take (i:=24) (oi:=_) (v:=?_) rfl (by kernel_rfl) (by kernel_rfl) (by kernel_rfl) (fun _ _ _ h=>h) (Or.inl ⟨by rfl,?_⟩) hHeld ?_
        rotate_left
        ·(intro w hSw;(try dsimp only at hSw);go_simp;(try with_reducible rfl))
        try simp only[Act.put,List.setIfInBounds_toArray,List.set_cons_zero,List.set_cons_succ,List.getElem_toArray,List.getElem_cons_succ,List.getElem_cons_zero]
        refine wpAnyH_take (i:=25) (oi:=_) (v:=?_) rfl (by kernel_rfl) (by kernel_rfl) (by kernel_rfl) (fun _ _ _ h=>h) (Or.inl ⟨by rfl,?_⟩) hHeld ?_
        rotate_left
        ·(intro w hSw;(try dsimp only at hSw);go_simp;(try with_reducible rfl))
        try simp only[Act.put,List.setIfInBounds_toArray,List.set_cons_zero,List.set_cons_succ,List.getElem_toArray,List.getElem_cons_succ,List.getElem_cons_zero]
        refine wpAnyH_ready (rs:=[21]) (by kernel_rfl) (by simp) ?_
        refine AllReadyH.cons (o:=_) rfl (fun Kq hK=>?_) AllReadyH.nil
        go_simp
        go_at_call 36
        refine(CN.out _ X2.out).mono ?_
        rintro e x4 ⟨rfl,rfl⟩
        go_wp2_with fail
        refine hK.out _ _ ⟨(HP.out _ X2.out).is.c 0,(HP.out _ X2.out).is.c 2⟩ (fun hHeld=>?_)
        clear hK Kq
        try simp only[Act.put,List.setIfInBounds_toArray,List.set_cons_zero,List.set_cons_succ,List.getElem_toArray,List.getElem_cons_succ,List.getElem_cons_zero]
        refine wpAnyH_take (i:=26) (oi:=_) (v:=?_) rfl (by kernel_rfl) (by kernel_rfl) (by kernel_rfl) (fun _ _ _ h=>h) (Or.inl ⟨by rfl,?_⟩) hHeld ?_
        rotate_left
        ·(intro w hSw;(try dsimp only at hSw);go_simp;(try with_reducible rfl))
        try simp only[Act.put,List.setIfInBounds_toArray,List.set_cons_zero,List.set_cons_succ,List.getElem_toArray,List.getElem_cons_succ,List.getElem_cons_zero]
        refine wpAnyH_take (i:=27) (oi:=_) (v:=?_) rfl (by kernel_rfl) (by kernel_rfl) (by kernel_rfl) (fun _ _ _ h=>h) (Or.inl ⟨by rfl,?_⟩) hHeld ?_
        rotate_left
        ·(intro w hSw;(try dsimp only at hSw);go_simp;(try with_reducible rfl))
        try simp only[Act.put,List.setIfInBounds_toArray,List.set_cons_zero,List.set_cons_succ,List.getElem_toArray,List.getElem_cons_succ,List.getElem_cons_zero]
        refine wpAnyH_take (i:=28) (oi:=_) (v:=?_) rfl (by kernel_rfl) (by kernel_rfl) (by kernel_rfl) (fun _ _ _ h=>h) (Or.inl ⟨by rfl,?_⟩) hHeld ?_
        rotate_left
        ·(intro w hSw;(try dsimp only at hSw);go_simp;(try with_reducible rfl))
        try simp only[Act.put,List.setIfInBounds_toArray,List.set_cons_zero,List.set_cons_succ,List.getElem_toArray,List.getElem_cons_succ,List.getElem_cons_zero]
        refine wpAnyH_done (by kernel_rfl) ?_ _
        go_wp2
        go_ret
        exact⟨rfl,X2.out⟩
end
end Go.Proofs.YtkcpclmkbmeigaaGreat.Fd
