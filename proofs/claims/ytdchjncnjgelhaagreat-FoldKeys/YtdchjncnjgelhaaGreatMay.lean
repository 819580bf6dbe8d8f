import Derived.Test.YtdchjncnjgelhaaGreatMax
import Derived.Deep.RegionHeldLaw
import Derived.BigRegion
set_option linter.unusedVariables false
set_option linter.unusedSimpArgs false
set_option maxRecDepth 100000
namespace Go.Proofs.YtdchjncnjgelhaaGreat.Fd
open Go.RowKit Gm Go.Maps
theorem lt_cell {w:World} {g i:Nat} {v:Value} (h:w.cell? ⟨g,i,none⟩=some v):g<w.heap.size:=by
 refine Classical.byContradiction fun hn=>?_
 have e:w.heap[g]?=none:=Array.getElem?_eq_none (by omega)
 simp[World.cell?,e] at h
theorem ky_push {Wl Wl' S:Nat->Prop} {w w2 w5 w9:World} {fb b7 b11 g' i:Nat} {s1:Fs} {v v':Value} {C:List (Int × Hs)} {RX B:Array Value} {hx:ByteArray} {hy:Bool} {x:Int} {y:Int × Hs} (h:KyS Wl Wl' S w w2 w5 fb s1 v C) (h7:At w5 b7 54 RX) (h11:At w5 b11 136 #[.string hx,.bool hy]) (hg:S g') (tp:w5.cell? ⟨g',i,none⟩=some (.int .i64 x)) (A9:App (w5.alloc (.cells B 71)).drew w9 71 3 v v' (C.map encH++[encH y])):KyS Wl Wl' S w w2 w9 fb s1 v' (C++[y])/\At w9 b7 54 RX/\w9.cell? ⟨g',i,none⟩=some (.int .i64 x)/\w9.cell? ⟨b11,0,none⟩=some (.string hx)/\w9.cell? ⟨b11,1,none⟩=some (.bool hy):=by
 have bb:Below w5.heap.size w5 (w5.alloc (.cells B 71)).drew:=bdr (bl1 _) 1
 have R5:=h.row.bel bb
 have B7:=h7.bel bb
 have B11:=h11.bel bb
 have B9:=B11.keep (A9.grow.block _ B11.lt (fun e=>R5.ne (g:=0) B11 (by decide) e.symm))
 have t2:(w5.alloc (.cells B 71)).drew.cell? ⟨g',i,none⟩=some (.int .i64 x):=by
  rw[World.cell?_of_block (bb.block g' (lt_cell tp))];exact tp
 exact⟨(h.below bb).push A9,B7.keep (A9.grow.block _ B7.lt (fun e=>R5.ne (g:=0) B7 (by decide) e.symm)),(World.cell?_of_block (A9.grow.block g' (lt_cell t2) (fun e=>(h.sb g' e.symm).2 hg))).trans t2,B9.c 0,B9.c 1⟩
section
variable {w:World}{l:Nat}{fs:List ByteArray}{Wl:Nat->Prop}
structure KyE (Wl:Nat->Prop) (w:World) (l:Nat) (fs:List ByteArray) (C:List (Int × Hs)) (e:Ending) (w':World):Prop where
 ex:∃ a c Wl',e=.returned (.slice a C.length c)/\Gm.Row w' 71 3 (.slice a C.length c) (C.map encH)/\Lg.Lo Wl' w' l fs/\Gm.Fr Wl Wl' w w'/\∀ j,(Value.slice a C.length c).ownBlock=some j->w.heap.size<=j/\¬ Wl' j
set_option maxHeartbeats 8000000 in
theorem Key_any (h:Lg.Lo Wl w l fs) (hn:fs.length<=400) (key:ByteArray) (hs:key.size<=9223372036854775807):Calls Tryz.prog 27 #[.pointer (some ⟨l,0,none⟩),.string key] w fun e w'=>KyE Wl w l fs (keyF fs key fs.length) e w':=by
 have HL:Hid (Lg.Lo Wl w l fs):=h
 have HFr:Hid (∀ f∈fs,Frm f):=h.fit.frm
 have CN:Hid (∀ wx,Calls Tryz.prog 52 #[] wx fun e w'=>e=.returned (.pointer (some ⟨wx.heap.size+1,0,none⟩))/\NwF wx w' (wx.heap.size+1)):=New_ok
 have HRW:Hid (∀ i,i<fs.length->RcW (rcO fs i)):=fun i hi=>rcO_w h.fit.frm hi
 have HS:Hid (keyOf Tryz.prog 9 (.string key)=some (.string key.data.toList)):=keyS hs
 clear h
 obtain⟨m,hm⟩:∃ m,fs.length=m:=⟨_,rfl⟩
 have Hm:Hid (fs.length=m):=hm
 rw[hm] at hn HRW ⊢
 clear hm
 have CR:Hid (∀ w1 fb,NwF w w1 fb->Calls Tryz.prog 17 #[.pointer (some ⟨l,0,none⟩)] w1 fun e w2=>∃ a c a' c' S Wl',e=.returned (.tuple #[.slice a m c,.slice a' m c'])/\RwS S w2 fs a a'/\KyS Wl Wl' S w w2 w2 fb ⟨[],[],0⟩ (.slice none 0 0) []/\Lg.Lo Wl' w2 l fs/\∀ j,Wl' j->S j):=fun w1 fb na=>by
  obtain⟨Wf,f1,f2⟩:=na.ex
  have h:=rec_ky (w:=w) (fb:=fb) (s:=⟨[],[],0⟩) (HL.out.below na.bel) na.bel.size (fun j hj=>HL.out.lt hj) na.bel f1 f2
  rw[Hm.out] at h
  exact h
 have hSt:=stRc
 have hH:=stH
 go_enter Tryz.func27,Tryz.ntmps27
 go_wp2_with first
  | (have:=NA.out;go_at_call 17;refine(CR.out _ _ NA.out).mono ?_;rintro e w2 ⟨a,c,a',c',S,Wl',rfl,r1,r2,r3,r4⟩;have HSx:Hid (RwS S w2 fs a a'/\KyS Wl Wl' S w w2 w2 fb ⟨[],[],0⟩ (.slice none 0 0) []/\Lg.Lo Wl' w2 l fs/\∀ j,Wl' j->S j):=⟨r1,r2,r3,r4⟩;clear r1 r2 r3 r4)
  | (go_at_call 52;refine(CN.out _).mono ?_;rintro e w1 ⟨rfl,na⟩;obtain⟨fb,hfb⟩:∃ fb,fb=w.heap.size+1:=⟨_,rfl⟩;rw[← hfb] at na ⊢;clear hfb;have NA:Hid (NwF w w1 fb):=na;clear na)
 clear CR NA CN
 go_loopg [6,21] m (fun k vw vi wr=>∃ i:Nat,vi=.int .i64 (i:Int)/\m-i<=k/\i<=m/\KyS Wl Wl' S w w2 wr fb (fsF fs i) vw (keyF fs key i)/\Bd (fsF fs i) i)
 case atStart=>exact⟨0,rfl,by omega,by omega,HSx.out.2.1,Bd.zero⟩
 case round =>
  obtain⟨i,rfl,hk,him,hO,hBd⟩:=hrel
  have HO:Hid (KyS Wl Wl' S w w2 wr fb (fsF fs i) u6 (keyF fs key i)/\Bd (fsF fs i) i):=⟨hO,hBd⟩
  clear hO hBd
  by_cases hlt:i<m
  ·have hltI:(i:Int)<(m:Int):=by omega
   obtain⟨g,g',I,T,rfl,rfl,sg,sg',hone,hr,hp⟩:=HSx.out.1.at_ i (by rw[Hm.out];exact hlt)
   have y2:wr.rangeAt g (i*13) ((rcO fs i).A I T).toList:=range_bel hr (HO.out.1.keep g sg)
   have p2:wr.cell? ⟨g',i,none⟩=some (.int .i64 (Lg.pla fs i)):=by rw[World.cell?_of_block (HO.out.1.keep g' sg')];exact hp
   have HP:Hid (∀ wx,Below wr.heap.size wr wx->wx.cell? ⟨g',i,none⟩=some (.int .i64 (Lg.pla fs i))):=fun wx hb=>by
    have h9:g'<wr.heap.size:=Nat.lt_of_lt_of_le (HO.out.1.slt g' sg') HO.out.1.sz
    rw[World.cell?_of_block (hb.block g' h9)];exact p2
   have HK0:Hid (((rcO fs i).A I T)[0]?=some (.int .i64 (rcO fs i).kd)):=rfl
   have HK1:Hid (((rcO fs i).A I T)[1]?=some (.int .i64 (rcO fs i).tx)):=rfl
   have hrel2:=rel_fs HFr.out i (by rw[Hm.out];omega)
   have HKD:Hid (khF fs key i=if(rcO fs i).kd=7 then(lkK (ksG (fsF fs i).G (rcO fs i).tx) key.data.toList).map (·.2) else none):=kh_dev hrel2 key
   have HF2:Hid (fsF fs (i+1)=noteF (fsF fs i) (rcO fs i)):=rfl
   have HBn:Hid (Bd (noteF (fsF fs i) (rcO fs i)) (i+1)):=HO.out.2.note HO.out.1.pa _
   have CT:Hid (∀ wx v C,KyS Wl Wl' S w w2 wx fb (fsF fs i) v C->Calls Tryz.prog 54 #[.pointer (some ⟨fb,0,none⟩),.agg ((rcO fs i).A I T)] wx fun e w'=>e=.returned (.tuple #[])/\KyS Wl Wl' S w w2 w' fb (noteF (fsF fs i) (rcO fs i)) v C):=fun wx v C hx=>hx.note2 HO.out.2 (by omega) (HRW.out i hlt)
   have HRX:Hid (((rcO fs i).A I T).size=13/\((rcO fs i).A I T).size=zR.size/\∀ u∈((rcO fs i).A I T).toList,u.oneCell'=true):=⟨rfl,rfl,one_rc _ hone.1 hone.2⟩
   obtain⟨bw,hbw,mm,hmm,hks⟩:=HO.out.1.look (rcO fs i).tx (HRW.out i hlt).t
   have HB1:Hid (∀ wx,Below wr.heap.size wr wx->wx.cell? ⟨fb,1,none⟩=some (.map (some bw))):=hbw
   have HB2:Hid (∀ wx,Below wr.heap.size wr wx->(Instr.lookup 139 (.map (some bw)) (.int .i64 (rcO fs i).tx) false).run Tryz.prog wx=.ok (.map mm) wx):=hmm
   have HB3:Hid (∀ wx,Below wr.heap.size wr wx->(Instr.lookup 138 (.map mm) (.string key) true).run Tryz.prog wx=.ok (.tuple #[.agg ((((lkK (ksG (fsF fs i).G (rcO fs i).tx) key.data.toList).map (·.2)).getD zH).A),.bool ((lkK (ksG (fsF fs i).G (rcO fs i).tx) key.data.toList).map (·.2)).isSome]) wx):=by
    cases mm with
    | none =>
     intro wx hb
     rw[show ksG (fsF fs i).G (rcO fs i).tx=[] from hks]
     kernel_rfl
    | some b =>
     obtain⟨ks,e,hmp⟩:=hks
     rw[e]
     intro wx hb
     have:=(hmp wx hb).look KS uK (zKv _) HS.out
     rw[fK_at] at this
     rw[this]
     cases lkK ks key.data.toList <;> rfl
   have HSg:Hid (S g'):=sg'
   clear hr hp sg sg' hone hbw hmm hks hrel2
   have HKF:Hid (∀ h,khF fs key i=some h->keyF fs key (i+1)=keyF fs key i++[(Lg.pla fs i,h)]):=fun h e=>keyF_some e
   have HKN:Hid (khF fs key i=none->keyF fs key (i+1)=keyF fs key i):=keyF_none
   have HKl:Hid ((keyF fs key i).length<=500):=by have:=keyF_len (fs:=fs) (key:=key) i;show _<=_;omega
   generalize (lkK (ksG (fsF fs i).G (rcO fs i).tx) key.data.toList).map (·.2)=oh at *
   generalize noteF (fsF fs i) (rcO fs i)=s2 at *
   generalize fsF fs i=s1 at *
   generalize (rcO fs i).A I T=RX at *
   generalize (rcO fs i).kd=kd at *
   generalize (rcO fs i).tx=tx at *
   generalize Lg.pla fs i=x at *
   go_wp2_with first
    | (refine wpList_load_in hSt (A:=RX) _ rfl _ rfl rfl y2 HRX.out.1 ?_)
    | (refine wpList_new_at (A:=zR) _ zRv rfl rfl ?_;intro w3 b7 N3)
    | (refine wpList_put_at (A:=zR) (A':=RX) hSt _ rfl _ _ rfl rfl rfl N3.is rfl HRX.out.1 HRX.out.2.2 ?_;intro w4 P4;have X4:Hid (Below wr.heap.size wr w4/\At w4 b7 54 RX):=⟨np_bel N3 P4,P4.is⟩)
   have d1:w4.cell? ⟨fb,1,none⟩=some (.map (some bw)):=HB1.out _ X4.out.1
   have e1:w4.cell? ⟨b7,1,none⟩=some (.int .i64 tx):=(X4.out.2.c 1).trans HK1.out
   have hl1:=HB2.out w4.drew (bdr X4.out.1 1)
   have hl2:=HB3.out w4.drew (bdr X4.out.1 1)
   have BZ:∀ hz:Hs,Below wr.heap.size wr (w4.alloc (.cells #[.string hz.v,.bool hz.is] 136)).drew:=fun hz=>bdr (thn X4.out.1 (bl1 _)) 1
   have hm1:=HB2.out (w4.alloc (.cells #[.string ⟨#[]⟩,.bool false] 136)).drew (BZ zH)
   have hm2:=HB3.out (w4.alloc (.cells #[.string ⟨#[]⟩,.bool false] 136)).drew (BZ zH)
   have f1:(w4.alloc (.cells #[.string ⟨#[]⟩,.bool false] 136)).drew.cell? ⟨fb,1,none⟩=some (.map (some bw)):=HB1.out _ (BZ zH)
   have g1:(w4.alloc (.cells #[.string ⟨#[]⟩,.bool false] 136)).drew.cell? ⟨b7,1,none⟩=some (.int .i64 tx):=((X4.out.2.bel (bdr (bl1 _) 1)).c 1).trans HK1.out
   generalize hhv:oh.getD zH=hv at *
   generalize hhi:oh.isSome=hi at *
   obtain⟨hx,hy⟩:=hv
   dsimp only[Hs.A] at hl2 hm2
   have p1:(w4.alloc (.cells #[.string hx,.bool hy] 136)).drew.cell? ⟨fb,1,none⟩=some (.map (some bw)):=HB1.out _ (BZ ⟨hx,hy⟩)
   have q1:(w4.alloc (.cells #[.string hx,.bool hy] 136)).drew.cell? ⟨b7,1,none⟩=some (.int .i64 tx):=((X4.out.2.bel (bdr (bl1 _) 1)).c 1).trans HK1.out
   go_region_held_law (fun wx=>wx.cell? ⟨fb,1,none⟩=some (.map (some bw))/\wx.cell? ⟨b7,1,none⟩=some (.int .i64 tx)) (first |exact⟨d1,e1⟩ |exact⟨f1,g1⟩ |exact⟨p1,q1⟩) (fail)
   all_goals
    have X5:Hid (KyS Wl Wl' S w w2 (w4.alloc (.cells #[.string hx,.bool hy] 136)).drew fb s1 u6 (keyF fs key i)/\At (w4.alloc (.cells #[.string hx,.bool hy] 136)).drew b7 54 RX/\At (w4.alloc (.cells #[.string hx,.bool hy] 136)).drew w4.heap.size 136 #[.string hx,.bool hy]/\Below wr.heap.size wr (w4.alloc (.cells #[.string hx,.bool hy] 136)).drew):=⟨HO.out.1.below (BZ ⟨hx,hy⟩),X4.out.2.bel (bdr (bl1 _) 1),(At.new _ _ _).bel (bdr (Below.refl _ _) 1),BZ ⟨hx,hy⟩⟩
    clear d1 e1 f1 g1 hl1 hl2 hm1 hm2 p1 q1 BZ P4 N3 HB1 HB2 HB3
    generalize (w4.alloc (.cells #[.string hx,.bool hy] 136)).drew=w5 at *
    generalize w4.heap.size=b11 at *
    clear X4
    have q0:w5.cell? ⟨b7,0,none⟩=some (.int .i64 kd):=(X5.out.2.1.c 0).trans HK0.out
    have s0:w5.cell? ⟨b11,0,none⟩=some (.string hx):=X5.out.2.2.1.c 0
    have s1':w5.cell? ⟨b11,1,none⟩=some (.bool hy):=X5.out.2.2.1.c 1
    have sp:w5.cell? ⟨g',i,none⟩=some (.int .i64 x):=HP.out _ X5.out.2.2.2
    by_cases hx7:kd=7
    ·subst hx7
     rcases oh with _ |h
     ·have HE:Hid (keyF fs key (i+1)=keyF fs key i):=HKN.out HKD.out
      cases hhi
      clear hhv HKF HKN HKD
      go_wp2_with first
       | (refine wpList_load_at hSt (A:=RX) _ rfl _ rfl rfl X5.out.2.1 HRX.out.1 ?_)
       | (go_at_call 54;refine(CT.out _ _ _ X5.out.1).mono ?_;rintro e w7 ⟨rfl,x7⟩;have X7:Hid (KyS Wl Wl' S w w2 w7 fb s2 u6 (keyF fs key i)):=x7;clear x7)
      go_roundg (m-(i+1))
      case measure=>omega
      case rel=>exact⟨i+1,by first |rfl |go_num,Nat.le_refl _,by omega,by rw[HE.out,HF2.out];exact X7.out,by rw[HF2.out];exact HBn.out⟩
     ·have HE:Hid (keyF fs key (i+1)=keyF fs key i++[(x,h)]):=HKF.out h HKD.out
      obtain⟨h1',h2'⟩:=h
      cases hhi
      cases hhv
      clear HKF HKN HKD
      have HlC:Hid (((keyF fs key i).map encH).length=(keyF fs key i).length):=List.length_map ..
      have t0:(w5.alloc (.cells #[.int .i64 x,.string hx,.bool hy] 71)).drew.cell? ⟨b11,0,none⟩=some (.string hx):=(X5.out.2.2.1.bel (bdr (bl1 _) 1)).c 0
      have t1:(w5.alloc (.cells #[.int .i64 x,.string hx,.bool hy] 71)).drew.cell? ⟨b11,1,none⟩=some (.bool hy):=(X5.out.2.2.1.bel (bdr (bl1 _) 1)).c 1
      have tp:(w5.alloc (.cells #[.int .i64 x,.string hx,.bool hy] 71)).drew.cell? ⟨g',i,none⟩=some (.int .i64 x):=HP.out _ (thn X5.out.2.2.2 (bdr (bl1 _) 1))
      go_wp2
      go_region_held_law (fun wx=>wx.cell? ⟨g',i,none⟩=some (.int .i64 x)/\wx.cell? ⟨b11,0,none⟩=some (.string hx)/\wx.cell? ⟨b11,1,none⟩=some (.bool hy)) (first |exact⟨sp,s0,s1'⟩ |exact⟨tp,t0,t1⟩ |exact Y9.out.2.2) ((refine step_push elCh (A:=#[.int .i64 x,.string hx,.bool hy]) (L:=(keyF fs key i).map encH) (v:=u6) (c:=1) rfl (.tmp 44) (.tmp 54) rfl rfl (X5.out.1.row.bel (bdr (bl1 _) 1)) rfl ((At.new w5 _ _).bel (bdr (Below.refl _ _) 1)) rfl (fun v hv=>by simp at hv;rcases hv with rfl |rfl |rfl <;> rfl) (by have:=HKl.out;have:=HlC.out;omega) ?_;intro a9 c9 w9 A9;rw[HlC.out] at A9 ⊢;have Y9:Hid (KyS Wl Wl' S w w2 w9 fb s1 (.slice a9 ((keyF fs key i).length+1) c9) (keyF fs key i++[(x,⟨hx,hy⟩)])/\At w9 b7 54 RX/\w9.cell? ⟨g',i,none⟩=some (.int .i64 x)/\w9.cell? ⟨b11,0,none⟩=some (.string hx)/\w9.cell? ⟨b11,1,none⟩=some (.bool hy)):=ky_push X5.out.1 X5.out.2.1 X5.out.2.2.1 HSg.out sp A9;clear A9))
      go_wp2_with first
       | (refine wpList_load_at hSt (A:=RX) _ rfl _ rfl rfl Y9.out.2.1 HRX.out.1 ?_)
       | (go_at_call 54;refine(CT.out _ _ _ Y9.out.1).mono ?_;rintro e w7 ⟨rfl,x7⟩;have X7:Hid (KyS Wl Wl' S w w2 w7 fb s2 (.slice a9 ((keyF fs key i).length+1) c9) (keyF fs key i++[(x,⟨hx,hy⟩)])):=x7;clear x7)
      go_roundg (m-(i+1))
      case measure=>omega
      case rel=>exact⟨i+1,by first |rfl |go_num,Nat.le_refl _,by omega,by rw[HE.out,HF2.out];exact X7.out,by rw[HF2.out];exact HBn.out⟩
    ·have HE:Hid (keyF fs key (i+1)=keyF fs key i):=HKN.out (HKD.out.trans (if_neg hx7))
     clear HKF HKN HKD
     go_wp2_with first
      | (refine wpList_load_at hSt (A:=RX) _ rfl _ rfl rfl X5.out.2.1 HRX.out.1 ?_)
      | (go_at_call 54;refine(CT.out _ _ _ X5.out.1).mono ?_;rintro e w7 ⟨rfl,x7⟩;have X7:Hid (KyS Wl Wl' S w w2 w7 fb s2 u6 (keyF fs key i)):=x7;clear x7)
     go_roundg (m-(i+1))
     case measure=>omega
     case rel=>exact⟨i+1,by first |rfl |go_num,Nat.le_refl _,by omega,by rw[HE.out,HF2.out];exact X7.out,by rw[HF2.out];exact HBn.out⟩
  ·obtain rfl:i=m:=by omega
   have hltI:¬ (i:Int)<(i:Int):=by omega
   obtain⟨av,cv,ev,_⟩:=HO.out.1.row.sl
   rw[List.length_map] at ev
   subst ev
   go_wp2
   go_ret
   have e9:=Hm.out
   subst e9
   exact⟨_,_,Wl',rfl,HO.out.1.row,HSx.out.2.2.1.turn (fun j hj=>HO.out.1.keep j (HSx.out.2.2.2 j hj)) HO.out.1.sz,HO.out.1.fr,fun j hj=>⟨(HO.out.1.sb j hj).1,fun hw=>(HO.out.1.sb j hj).2 (HSx.out.2.2.2 j hw)⟩⟩
end
end Go.Proofs.YtdchjncnjgelhaaGreat.Fd
