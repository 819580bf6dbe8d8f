import Derived.Test.YtdchjncnjgelhaaGreatMaw
import Derived.Test.YtdchjncnjgelhaaGreatMba
import Derived.BigQuiet
import Derived.Deep.QuietTactic
set_option linter.unusedVariables false
set_option linter.unusedSimpArgs false
set_option maxRecDepth 100000
namespace Go.Proofs.YtdchjncnjgelhaaGreat.Fd
open Go.RowKit Gm Go.Maps
section
variable {w w1 w2 w3:World}{l N:Nat}{fs:List ByteArray}{a a':Option Addr}{W W':Nat->Prop}
theorem RwA.fr (h:RwA w2 fs a a') (hf:Gm.Fr W W' w2 w3) (h1:∀ g,a=some ⟨g,0,none⟩->¬ W g) (h2:∀ g,a'=some ⟨g,0,none⟩->¬ W g):RwA w3 fs a a':=⟨fun i hi=>by
 obtain⟨g,g',I,T,e1,e2,h3,h4⟩:=h.at_ i hi
 obtain⟨h5,h6⟩:=h4 w2 (Below.refl _ _)
 have h7:w2.cell? ⟨g,i*13+0,none⟩=some (.int .i64 (rcO fs i).kd):=h5 0 _ rfl
 refine⟨g,g',I,T,e1,e2,h3,fun wx hb=>⟨?_,?_⟩⟩
 ·exact range_bel h5 ((hb.block g (Nat.lt_of_lt_of_le (lt_cell h7) hf.size)).trans (hf.blk g (lt_cell h7) (h1 g e1)))
 ·rw[World.cell?_of_block ((hb.block g' (Nat.lt_of_lt_of_le (lt_cell h6) hf.size)).trans (hf.blk g' (lt_cell h6) (h2 g' e2)))]
  exact h6⟩
theorem LmN_recs2 (h:Lg.LmN w l w1 N):Calls Tryz.prog 17 #[.pointer (some ⟨l,0,none⟩)] w1 fun e w2=>∃ fs a c a' c' W,e=.returned (.tuple #[.slice a fs.length c,.slice a' fs.length c'])/\fs.length<=N/\RwA w2 fs a a'/\(Lg.Lo W w2 l fs/\(∀ j,W j->w.heap.size<=j)/\(∀ g,a=some ⟨g,0,none⟩->¬ W g)/\∀ g,a'=some ⟨g,0,none⟩->¬ W g)/\Below w.heap.size w w2:=by
 obtain⟨W,fs,h1,h2,h3,h4⟩:=h.ex
 refine h1.records.mono ?_
 rintro e w2 ⟨v,v2,Wl',he,hr,hi,hlo,hf,n1,n2⟩
 obtain⟨a,c,e1⟩:=hr.slice
 obtain⟨a',c',e2⟩:=hi.ex
 rw[List.length_map] at e1
 rw[plc_length] at e2
 subst e1 e2
 refine⟨fs,a,c,a',c',Wl',he,h4,⟨fun i hlt=>?_⟩,⟨hlo,Lg.ge_sub h2 h3.size hf,fun g e=>n1 g (by rw[e];rfl),fun g e=>n2 g (by rw[e];rfl)⟩,h3.trans (hf.bel h2 h3.size)⟩
 obtain⟨g,I,T,e3,hra,hrf⟩:=hr.at_ (i:=i) (by rw[List.length_map];exact hlt)
 obtain⟨g',e4,hci⟩:=hi.at_ (i:=i) (by rw[plc_length];exact hlt)
 have hg:g<w2.heap.size:=by
  obtain⟨es,q1,⟨q2,q3⟩,q4⟩:=hr.ex
  rcases q3 with⟨e,_⟩ |⟨g9,cap,cur,e,hB,hg9,_⟩
  ·rw[e3] at e;injection e with e5 e6 e7;cases e5
  ·rw[e3] at e;injection e with e5 e6 e7;cases e5;exact lt_of hg9
 have hp:=plc_get 1 fs i hlt
 rw[List.getElem?_eq_getElem (by rw[plc_length];exact hlt)] at hp
 have hp:=Option.some.inj hp
 rw[List.getElem_map,Lg.rcd_at hlt] at hra
 refine⟨g,g',I,T,e3,e4,recF_one hrf,fun wx hb=>⟨?_,?_⟩⟩
 ·unfold rcO
  rw[toR_A]
  exact range_bel hra (hb.block g hg)
 ·rw[hci wx hb,hp]
  rfl
structure KxO (w w3:World) (l:Nat) (fs:List ByteArray) (a a' b:Option Addr) (c:Nat) (C:List (Int × Hs)):Prop where
 rw_:RwA w3 fs a a'
 lo:∃ W,Lg.Lo W w3 l fs/\∀ j,W j->w.heap.size<=j
 bel:Below w.heap.size w w3
 ch:Gm.Row w3 71 3 (.slice b C.length c) (C.map encH)
theorem key_kx {key:ByteArray} (hs:key.size<=9223372036854775807) (h4:fs.length<=400) (hr:RwA w2 fs a a') (hl:Lg.Lo W w2 l fs) (hW:∀ j,W j->w.heap.size<=j) (h1:∀ g,a=some ⟨g,0,none⟩->¬ W g) (h2:∀ g,a'=some ⟨g,0,none⟩->¬ W g) (hb:Below w.heap.size w w2):Calls Tryz.prog 27 #[.pointer (some ⟨l,0,none⟩),.string key] w2 fun e w3=>∃ b c,e=.returned (.slice b (keyF fs key fs.length).length c)/\KxO w w3 l fs a a' b c (keyF fs key fs.length):=by
 refine(Key_any hl h4 key hs).mono ?_
 rintro e w3 ⟨b,c,Wl',rfl,k1,k2,k3,k4⟩
 exact⟨b,c,rfl,hr.fr k3 h1 h2,⟨Wl',k2,Lg.ge_sub hW hb.size k3⟩,hb.trans (k3.bel hW hb.size),k1⟩
theorem KxO.when {b:Option Addr} {c:Nat} {C:List (Int × Hs)} {wx:World} (h:KxO w w3 l fs a a' b c C) (hb:Below w3.heap.size w3 wx) (h4:fs.length<=400) {key:ByteArray} (hs:key.size<=9223372036854775807) (en:Int):Calls Tryz.prog 28 #[.pointer (some ⟨l,0,none⟩),.string key,.int .i64 en] wx fun e w'=>e=.returned (.tuple #[.string (whF (keyF fs key fs.length) en).v,.bool (whF (keyF fs key fs.length) en).is])/\Below w.heap.size w w':=by
 obtain⟨W,h1,h2⟩:=h.lo
 refine(When_any (h1.below hb) h4 key hs en).mono ?_
 rintro e w' ⟨Wl',he,hf⟩
 have hb2:=thn h.bel hb
 exact⟨he,hb2.trans (hf.bel h2 hb2.size)⟩
end
def tnP (kd tx:Int) (key:ByteArray) (x:Bk):Bool:=(kd==7)&&(x.tx==tx)&&(x.ky.toList==key.toList)
theorem kh_turns2 (fs:List ByteArray) (key:ByteArray) (i:Nat):(khF fs key i).isSome=(fsP fs i).B.any (tnP (rcO fs i).kd (rcO fs i).tx key):=by
 rw[kh_turns]
 congr 1
 funext x
 unfold tnP
 rw[Bool.eq_iff_iff]
 simp only[Bool.and_eq_true,decide_eq_true_eq,beq_iff_eq,tl_eq]
 constructor
 ·rintro⟨⟨h1,h2⟩,h3⟩;exact⟨⟨h1,h2⟩,by rw[h3]⟩
 ·rintro⟨⟨h1,h2⟩,h3⟩;exact⟨⟨h1,h2⟩,by rw[ByteArray.toList_eq,ByteArray.toList_eq] at h3;exact ba_eq h3⟩
structure HasC (K:List CL) (key:ByteArray) (j:Nat) (t:Bool) (c:CL):Prop where
 an:t=(K.take j).any fun c=>c.1.toList==key.toList
 no:t=false->c=(⟨#[]⟩,⟨#[]⟩)
 yes:t=true->c∈K/\c.1=key
theorem HasC.zero (K:List CL) (key:ByteArray):HasC K key 0 false (⟨#[]⟩,⟨#[]⟩):=⟨rfl,fun _=>rfl,fun h=>by cases h⟩
theorem HasC.hit {K:List CL} {key:ByteArray} {j:Nat} {t:Bool} {c:CL} (h:HasC K key j t c) (hj:j<K.length) (e:(K[j].1.toList==key.toList)=true):HasC K key (j+1) true K[j] :=
 ⟨by rw[any_next hj,e,Bool.or_true],fun h=>(by cases h),fun _=>⟨List.getElem_mem hj,tl_eq.1 e⟩⟩
theorem HasC.miss {K:List CL} {key:ByteArray} {j:Nat} {t:Bool} {c:CL} (h:HasC K key j t c) (hj:j<K.length) (e:(K[j].1.toList==key.toList)=false):HasC K key (j+1) t c :=
 ⟨by rw[any_next hj,e,Bool.or_false];exact h.an,h.no,h.yes⟩
theorem HasC.done {fs:List ByteArray} {key:ByteArray} {i j:Nat} {h:Hs} {t:Bool} {c:CL} (hr:Ris (fsP fs i).K) (e:khF fs key i=some h) (hc:HasC (fsP fs (i+1)).K key j t c) (hj:(fsP fs (i+1)).K.length<=j):t=h.is/\c.2=h.v:=by
 have ht:=hc.an
 rw[List.take_of_length_le hj] at ht
 cases hi:h.is with
 | true =>
  have h1:(key,h.v)∈(fsP fs (i+1)).K:=(kh_cells hr e (key,h.v) rfl).2 ⟨hi,rfl⟩
  have h2:t=true:=by rw[ht,List.any_eq_true];exact⟨_,h1,by simp⟩
  obtain⟨h3,h4⟩:=hc.yes h2
  exact⟨h2,((kh_cells hr e c h4).1 h3).2⟩
 | false =>
  have h2:t=false:=by
   rw[ht,List.any_eq_false]
   intro q hq hk
   have:=((kh_cells hr e q (tl_eq.1 hk)).1 hq).1
   rw[hi] at this
   cases this
  refine⟨h2,?_⟩
  rw[hc.no h2,kh_zero e hi]
  rfl
section
variable {w:World}{ms:List Rm}{a0:Option Addr}{n0 c0:Nat}
set_option maxHeartbeats 8000000 in
theorem keys16_walk (hr:RsV w a0 n0 ms) (hs:∀ m∈ms,Small m) (hn:n0<=9223372036854775807) (key:ByteArray) (hk9:key.size<=140737488351232) (en:Int):Calls Tryz.prog 6 #[.slice a0 n0 c0,.string key,.int .i64 en] w fun e w'=>e=.returned (.bool true)/\Below w.heap.size w w':=by
 have CL:Hid (Calls Tryz.prog 16 #[.slice a0 n0 c0,.int .i64 60] w fun e w'=>∃ l,e=.returned (.pointer (some ⟨l,0,none⟩))/\Lg.LmN w l w' 60):=Lg.log_anyN hr hs hn 60 (by omega)
 have CK:Hid (∀ wx,Calls Tryz.prog 26 #[] wx fun e w'=>e=.returned (.bool true)/\Below wx.heap.size wx w'):=awake16
 have HSz:Hid (key.size<=9223372036854775807):=(by show _<=_;omega)
 have mixed:Tryz.prog.follows .mixedOrders=true:=by kernel_rfl
 clear hr hs hn hk9
 go_enter Tryz.func6,Tryz.ntmps6
 go_wp2_with first
  | (go_at_call 16;refine CL.out.mono ?_;rintro e w1 ⟨l,rfl,HM⟩;have HM1:Hid (Lg.LmN w l w1 60):=HM;clear HM)
  | (go_at_call 17;refine(LmN_recs2 HM1.out).mono ?_;rintro e w2 ⟨fs,a,c,a',c',W,rfl,y1,y2,y3,y4⟩;have HY:Hid (fs.length<=60/\(∀ f∈fs,Frm f)):=⟨y1,y3.1.fit.frm⟩;have CKy:Hid (Calls Tryz.prog 27 #[.pointer (some ⟨l,0,none⟩),.string key] w2 fun e w3=>∃ b c,e=.returned (.slice b (keyF fs key fs.length).length c)/\KxO w w3 l fs a a' b c (keyF fs key fs.length)):=key_kx HSz.out (by omega) y2 y3.1 y3.2.1 y3.2.2.1 y3.2.2.2 y4;clear y1 y2 y3 y4)
  | (go_at_call 27;refine CKy.out.mono ?_;rintro e w3 ⟨b,d,rfl,hx⟩;have HX:Hid (KxO w w3 l fs a a' b d (keyF fs key fs.length)):=hx;clear hx CKy)
  | (refine wpList_box_at (A:=zP) _ rfl _ rfl rfl ?_;intro w4 pb N4;have P4:Hid (PlO w3 w4 pb (.slice none 0 0) (.slice none 0 0) (fsP fs 0)):=PlO.new N4;clear N4)
 obtain⟨m,hm⟩:∃ m,fs.length=m:=⟨_,rfl⟩
 have Hm:Hid (fs.length=m/\m<=60):=⟨hm,by rw[← hm];exact HY.out.1⟩
 rw[hm] at HX ⊢
 clear hm HM1 CL
 go_loopg [12,13,14,15] m (fun k vn vv vs vi wr=>∃ (i n:Nat) (z:Hs) (vc vb:Value),vn=.int .i64 (n:Int)/\vv=.string z.v/\vs=.bool z.is/\vi=.int .i64 (i:Int)/\m-i<=k/\i<=m/\(n=(keyF fs key i).length/\z=whF (keyF fs key i) en)/\PlO w3 wr pb vc vb (fsP fs i))
 case atStart=>exact⟨0,0,zH,_,_,rfl,rfl,rfl,rfl,by omega,by omega,⟨rfl,rfl⟩,P4.out⟩
 case round =>
  clear P4
  rename World=>wo
  obtain⟨i,n,z,vc,vb,rfl,rfl,rfl,rfl,hk,him,hnz,hP⟩:=hrel
  have HP:Hid (PlO w3 wo pb vc vb (fsP fs i)):=hP
  have HNz:Hid (n=(keyF fs key i).length/\z=whF (keyF fs key i) en):=hnz
  clear hP hnz
  have hmI:=Hm.out.2
  by_cases hlt:i<m
  ·have hltI:(i:Int)<(m:Int):=by omega
   obtain⟨g,g',I,T,rfl,rfl,hone,hat⟩:=HX.out.rw_.at_ i (by rw[Hm.out.1];exact hlt)
   have HAT:Hid (∀ wx,Below w3.heap.size w3 wx->wx.rangeAt g (i*13) ((rcO fs i).A I T).toList/\wx.cell? ⟨g',i,none⟩=some (.int .i64 (Lg.pla fs i))):=hat
   have HRX:Hid (((rcO fs i).A I T).size=13/\((rcO fs i).A I T).toList[0]?=some (.int .i64 (rcO fs i).kd)/\((rcO fs i).A I T).toList[1]?=some (.int .i64 (rcO fs i).tx)):=⟨rfl,rfl,rfl⟩
   have CT:Hid (∀ wx vc vb,PlO w3 wx pb vc vb (fsP fs i)->Calls Tryz.prog 24 #[.pointer (some ⟨pb,0,none⟩),.agg ((rcO fs i).A I T)] wx fun e w'=>NtO w3 pb (fsP fs (i+1)) e w'):=fun wx vc vb hp=>NoteP_any hp (by
    have h1:=fsP_len (fs:=fs) i
    have h2:=fsF_bd HY.out.2 i (by rw[Hm.out.1];omega)
    have h3:=(rel_fs HY.out.2 i (by rw[Hm.out.1];omega)).k
    have h4:=h2.1.wt
    rw[h3] at h4
    omega) (by have h1:=fsP_len (fs:=fs) i;omega)
   have hSt:=stRc
   obtain⟨ab,cb,eb,_⟩:=HP.out.rb.sl
   rw[List.length_map] at eb
   subst eb
   have HTn:Hid ((khF fs key i).isSome=(fsP fs i).B.any (tnP (rcO fs i).kd (rcO fs i).tx key)):=kh_turns2 fs key i
   have HBk:Hid (∀ wx,Below wo.heap.size wo wx->∀ k (h:k<(fsP fs i).B.length),∃ gb,ab=some ⟨gb,0,none⟩/\wx.cell? ⟨gb,k*13+1,none⟩=some (.int .i64 (fsP fs i).B[k].tx)/\wx.cell? ⟨gb,k*13+5,none⟩=some (.string (fsP fs i).B[k].ky)):=fun wx hb k h=>by
    obtain⟨gb,e,hx⟩:=book_at (g:=0) (HP.out.rb) h
    exact⟨gb,e,hx wx hb 1 _ rfl,hx wx hb 5 _ rfl⟩
   have HP2:Hid (∀ wx,Below wo.heap.size wo wx->PlO w3 wx pb vc (.slice ab (fsP fs i).B.length cb) (fsP fs i)):=fun wx hb=>HP.out.below hb
   have HRi:Hid (Ris (fsP fs i).K/\((fsP fs (i+1)).K.length<=900)):=by
    have h2:=rel_fs HY.out.2 i (by rw[Hm.out.1];omega)
    have h3:=rel_fs HY.out.2 (i+1) (by rw[Hm.out.1];omega)
    have h4:=(fsF_bd HY.out.2 (i+1) (by rw[Hm.out.1];omega)).1.wt
    exact⟨by rw[← h2.k];exact h2.up,by rw[← h3.k];omega⟩
   have hB60:(fsP fs i).B.length<=60:=by have h1:=fsP_len (fs:=fs) i;omega
   clear hat hone
   go_wp2
   generalize hBB:(fsP fs i).B=B at *
   go_loopg [16,17] B.length (fun k vt vi wr2=>∃ k':Nat,vi=.int .i64 (k':Int)/\B.length-k'<=k/\k'<=B.length/\vt=.bool ((B.take k').any (tnP (rcO fs i).kd (rcO fs i).tx key))/\Below wo.heap.size wo wr2)
   case atStart=>exact⟨0,rfl,by omega,by omega,rfl,Below.refl _ _⟩
   case round =>
    obtain⟨k',rfl,hk1,hk2,rfl,hB⟩:=hrel
    have HB:Hid (Below wo.heap.size wo wr):=hB
    have PW:=HP2.out wr hB
    have y1:wr.cell? ⟨pb,1,none⟩=some (.slice ab B.length cb):=PW.is.c 1
    by_cases hl2:k'<B.length
    ·have hl2I:(k':Int)<(B.length:Int):=by omega
     obtain⟨gb,rfl,x1,x5⟩:=HBk.out wr hB k' hl2
     have HAn:Hid ((B.take (k'+1)).any (tnP (rcO fs i).kd (rcO fs i).tx key)=((B.take k').any (tnP (rcO fs i).kd (rcO fs i).tx key)||(((rcO fs i).kd==7)&&(B[k'].tx==(rcO fs i).tx)&&(B[k'].ky.toList==key.toList)))):=any_next hl2
     have r0:wr.cell? ⟨g,i*13,none⟩=some (.int .i64 (rcO fs i).kd):=by have:=(HAT.out _ (thn HP.out.bel hB)).1 0 _ HRX.out.2.1;simpa using this
     have r1:wr.cell? ⟨g,i*13+1,none⟩=some (.int .i64 (rcO fs i).tx):=(HAT.out _ (thn HP.out.bel hB)).1 1 _ HRX.out.2.2
     clear PW hB
     generalize ((B.take k').any (tnP (rcO fs i).kd (rcO fs i).tx key))=tb at *
     generalize (rcO fs i).kd=kd at *
     generalize (rcO fs i).tx=tx at *
     generalize B[k'].tx=bt at *
     generalize B[k'].ky=bk at *
     generalize h1:(kd==7)=b1 at *
     generalize h2:(bt==tx)=b2 at *
     generalize h3:(bk.toList==key.toList)=b3 at *
     cases tb with
     | true =>
      go_wp2
      go_quiet (fail)
      go_wp2
      go_roundg (B.length-(k'+1))
      case measure=>omega
      case rel=>exact⟨k'+1,by first |rfl |go_num,Nat.le_refl _,by omega,by rw[HAn.out,Bool.true_or],thn HB.out (Sm.below_dr (Below.refl _ _) nq)⟩
     | false =>
      cases b1 <;> cases b2
      all_goals
       go_wp2
       go_quiet (fail)
       go_wp2
       go_roundg (B.length-(k'+1))
       case measure=>omega
       case rel=>exact⟨k'+1,by first |rfl |go_num,Nat.le_refl _,by omega,by rw[HAn.out];rfl,thn HB.out (Sm.below_dr (Below.refl _ _) nq)⟩
    ·have hl2I:¬ (k':Int)<(B.length:Int):=by omega
     rw[List.take_of_length_le (show B.length<=k' by omega),← HTn.out]
     have y2:wr.rangeAt g (i*13) ((rcO fs i).A I T).toList:=(HAT.out _ (thn HP.out.bel hB)).1
     have CT2:Hid (Calls Tryz.prog 24 #[.pointer (some ⟨pb,0,none⟩),.agg ((rcO fs i).A I T)] wr fun e w'=>NtO w3 pb (fsP fs (i+1)) e w'):=CT.out _ _ _ PW
     have HB9:Hid (Below w3.heap.size w3 wr):=PW.bel
     have HAP:Hid (∀ wx,Below w3.heap.size w3 wx->wx.cell? ⟨g',i,none⟩=some (.int .i64 (Lg.pla fs i))):=fun wx hb=>(HAT.out wx hb).2
     have HKN:Hid (khF fs key i=none->keyF fs key (i+1)=keyF fs key i):=keyF_none
     have HKF:Hid (∀ h,khF fs key i=some h->keyF fs key (i+1)=keyF fs key i++[(Lg.pla fs i,h)]/\(keyF fs key m)[(keyF fs key i).length]?=some (Lg.pla fs i,h)):=fun h e=>⟨keyF_some e,keyF_at hlt e⟩
     have HDn:Hid (∀ h,khF fs key i=some h->∀ j t c,HasC (fsP fs (i+1)).K key j t c->(fsP fs (i+1)).K.length<=j->t=h.is/\c.2=h.v):=fun h e j t c hc hj=>hc.done HRi.out.1 e hj
     have HK9:Hid ((fsP fs (i+1)).K.length<=900):=HRi.out.2
     have HR13:Hid (((rcO fs i).A I T).size=13):=rfl
     clear PW hB HBk HTn CT HP2 HRi HAT HRX HP
     generalize (rcO fs i).A I T=RX at *
     generalize hkh:khF fs key i=kh at *
     generalize Lg.pla fs i=x at *
     rcases kh with _ |h
     ·have HE:Hid (keyF fs key (i+1)=keyF fs key i):=HKN.out rfl
      clear HKN HKF HDn
      rw[show(none:Option Hs).isSome=false from rfl]
      go_wp2_with first
       | (refine wpList_load_in hSt (A:=RX) _ rfl _ rfl rfl y2 HR13.out ?_)
       | (go_at_call 24;refine CT2.out.mono ?_;rintro e w5 ⟨rfl,vc5,vb5,hp5⟩;have P5:Hid (PlO w3 w5 pb vc5 vb5 (fsP fs (i+1))):=hp5;clear hp5)
      go_roundg (m-(i+1))
      case measure=>omega
      case rel=>exact⟨i+1,n,z,vc5,vb5,rfl,rfl,rfl,by first |rfl |go_num,Nat.le_refl _,by omega,by rw[HE.out];exact HNz.out,P5.out⟩
     ·obtain⟨e1,e2⟩:=HKF.out h rfl
      have HE:Hid (keyF fs key (i+1)=keyF fs key i++[(x,h)]/\(keyF fs key m)[n]?=some (x,h)):=⟨e1,by rw[HNz.out.1];exact e2⟩
      have HDo:Hid (∀ j t c,HasC (fsP fs (i+1)).K key j t c->(fsP fs (i+1)).K.length<=j->t=h.is/\c.2=h.v):=HDn.out h rfl
      clear HKN HKF HDn e1 e2
      rw[show(some h:Option Hs).isSome=true from rfl]
      go_wp2_with first
       | (refine wpList_load_in hSt (A:=RX) _ rfl _ rfl rfl y2 HR13.out ?_)
       | (go_at_call 24;refine CT2.out.mono ?_;rintro e w5 ⟨rfl,vc5,vb5,hp5⟩;have P5:Hid (PlO w3 w5 pb vc5 vb5 (fsP fs (i+1))):=hp5;clear hp5)
      obtain⟨b6,hb6⟩:∃ b6,b6=w5.heap.size:=⟨_,rfl⟩
      have B7:Hid (Below w5.heap.size w5 (w5.alloc (.cells #[.string ⟨#[]⟩,.string ⟨#[]⟩] 69))/\At (w5.alloc (.cells #[.string ⟨#[]⟩,.string ⟨#[]⟩] 69)) b6 69 #[.string ⟨#[]⟩,.string ⟨#[]⟩]/\w5.heap.size<=b6):=⟨bl1 _,by rw[hb6];exact At.new _ _ _,by rw[hb6];exact Nat.le_refl _⟩
      rw[← hb6]
      clear hb6
      obtain⟨ac,cc,ec,_⟩:=P5.out.rc.sl
      rw[List.length_map] at ec
      subst ec
      have HCe:Hid (∀ wx,Below w5.heap.size w5 wx->wx.cell? ⟨pb,0,none⟩=some (.slice ac (fsP fs (i+1)).K.length cc)/\∀ k (h:k<(fsP fs (i+1)).K.length),∃ gc,ac=some ⟨gc,0,none⟩/\wx.rangeAt gc (k*2) (#[.string (fsP fs (i+1)).K[k].1,.string (fsP fs (i+1)).K[k].2]:Array Value).toList/\wx.cell? ⟨gc,k*2,none⟩=some (.string (fsP fs (i+1)).K[k].1)):=fun wx hb=>by
       refine⟨(P5.out.is.bel hb).c 0,fun k h=>?_⟩
       obtain⟨gc,e,hg,hat⟩:=P5.out.rc.at_ (i:=k) (by rw[List.length_map];exact h)
       have hra:=(hat wx (hb.block gc hg)).1
       rw[List.getElem_map] at hra
       exact⟨gc,e,hra,by simpa using hra 0 _ rfl⟩
      have HHe:Hid (∀ wx,Below w5.heap.size w5 wx->PlO w3 wx pb (.slice ac (fsP fs (i+1)).K.length cc) vb5 (fsP fs (i+1))):=fun wx hb=>P5.out.below hb
      have hn60:n<=60:=by have:=keyF_len (fs:=fs) (key:=key) i;have:=HNz.out.1;omega
      clear y2 CT2 P5
      generalize (fsP fs (i+1)).K=KK at *
      go_loopg [19,20] KK.length (fun k vt vi wr2=>∃ (k':Nat) (t:Bool) (cl:CL),vi=.int .i64 (k':Int)/\KK.length-k'<=k/\k'<=KK.length/\vt=.bool t/\HasC KK key k' t cl/\Below w5.heap.size w5 wr2/\At wr2 b6 69 #[.string cl.1,.string cl.2])
      case atStart=>exact⟨0,false,(⟨#[]⟩,⟨#[]⟩),rfl,by omega,by omega,rfl,HasC.zero _ _,B7.out.1,B7.out.2.1⟩
      case round =>
       clear y1
       obtain⟨k,t,cl,rfl,hq1,hq2,rfl,hC,hB,hA⟩:=hrel
       have HB5:Hid (Below w5.heap.size w5 wr/\At wr b6 69 #[.string cl.1,.string cl.2]/\HasC KK key k t cl):=⟨hB,hA,hC⟩
       have y0:=(HCe.out wr hB).1
       have hK9:KK.length<=900:=HK9.out
       clear hA hC
       by_cases hl3:k<KK.length
       ·have hl3I:(k:Int)<(KK.length:Int):=by omega
        have HL3:Hid (k<KK.length):=hl3
        obtain⟨gc,rfl,x2,x0⟩:=(HCe.out wr hB).2 k hl3
        have HHit:Hid ((KK[k].1.toList==key.toList)=true->HasC KK key (k+1) true KK[k]):=fun e=>HB5.out.2.2.hit hl3 e
        have HMis:Hid ((KK[k].1.toList==key.toList)=false->HasC KK key (k+1) t cl):=fun e=>HB5.out.2.2.miss hl3 e
        clear hB
        generalize KK[k]=kc at *
        obtain⟨ka,kb⟩:=kc
        dsimp only at x2 x0 HHit HMis
        generalize h1:(ka.toList==key.toList)=b1 at *
        cases b1 with
        | true =>
         have A1:At (wr.setCell ⟨b6,0,none⟩ (.string ka)) b6 69 #[.string ka,.string cl.2]:=by have:=HB5.out.2.1.set 0 (.string ka);simpa using this
         have A2:Hid (At ((wr.setCell ⟨b6,0,none⟩ (.string ka)).setCell ⟨b6,1,none⟩ (.string kb)) b6 69 #[.string ka,.string kb]):=by show At _ _ _ _;have:=A1.set 1 (.string kb);simpa using this
         have f0:wr.frozen? ⟨b6,0,none⟩=false:=HB5.out.2.1.f 0
         have g0:wr.cell? ⟨b6,0,none⟩=some (.string cl.1):=HB5.out.2.1.c 0
         have f1:(wr.setCell ⟨b6,0,none⟩ (.string ka)).frozen? ⟨b6,1,none⟩=false:=A1.f 1
         have g1:(wr.setCell ⟨b6,0,none⟩ (.string ka)).cell? ⟨b6,1,none⟩=some (.string cl.2):=A1.c 1
         have B8:Hid (Below w5.heap.size w5 ((wr.setCell ⟨b6,0,none⟩ (.string ka)).setCell ⟨b6,1,none⟩ (.string kb))):=(((Gm.Fr.of_below HB5.out.1 (fun j=>j=b6)).set rfl 0 (.string ka)).set rfl 1 (.string kb)).bel (fun j hj=>by rw[hj];exact B7.out.2.2) (Nat.le_refl _)
         clear A1
         go_wp2_with first
          | (refine wpList_load_in stC (A:=#[.string ka,.string kb]) _ rfl _ rfl rfl x2 rfl ?_)
         go_roundg (KK.length-(k+1))
         case measure=>omega
         case rel=>exact⟨k+1,true,(ka,kb),by first |rfl |go_num,Nat.le_refl _,by have:=HL3.out;omega,rfl,HHit.out (by first |rfl |trivial),B8.out,A2.out⟩
        | false =>
         go_wp2
         go_roundg (KK.length-(k+1))
         case measure=>omega
         case rel=>exact⟨k+1,t,cl,by first |rfl |go_num,Nat.le_refl _,by have:=HL3.out;omega,rfl,HMis.out (by first |rfl |trivial),HB5.out.1,HB5.out.2.1⟩
       ·have hl3I:¬ (k:Int)<(KK.length:Int):=by omega
        obtain⟨d1,d2⟩:=HDo.out k t cl HB5.out.2.2 (by omega)
        subst d1
        have PW:=HHe.out wr hB
        have b61:wr.cell? ⟨b6,1,none⟩=some (.string h.v):=(HB5.out.2.1.c 1).trans (by rw[d2];rfl)
        obtain⟨hnl,hng⟩:=List.getElem?_eq_some_iff.1 HE.out.2
        obtain⟨gk,e,_,hat⟩:=HX.out.ch.at_ (i:=n) (by rw[List.length_map];exact hnl)
        subst e
        have hra:=(hat w3 rfl).1
        rw[List.getElem_map,hng] at hra
        have hb9:=PW.bel
        have hgk:gk<w3.heap.size:=lt_cell (hra 0 _ rfl)
        have k0:wr.cell? ⟨gk,n*3,none⟩=some (.int .i64 x):=by rw[World.cell?_of_block (hb9.block gk hgk)];simpa using hra 0 _ rfl
        have k1:wr.cell? ⟨gk,n*3+1,none⟩=some (.string h.v):=by rw[World.cell?_of_block (hb9.block gk hgk)];exact hra 1 _ rfl
        have k2:wr.cell? ⟨gk,n*3+2,none⟩=some (.bool h.is):=by rw[World.cell?_of_block (hb9.block gk hgk)];exact hra 2 _ rfl
        have kp:wr.cell? ⟨g',i,none⟩=some (.int .i64 x):=HAP.out wr hb9
        have hn4:decide ((keyF fs key m).length<=n)=false:=decide_eq_false (by omega)
        have hnI:(n:Int)<((keyF fs key m).length:Int):=by omega
        have hne:=fun wx=>neq_self2 h.v wx
        have hnb:(h.is !=h.is)=false:=by simp
        have hw1:IntKind.i64.wrap ((n:Int)+1)=(n:Int)+1:=by rw[IntKind.wrap_i64];omega
        have HPW:Hid (PlO w3 wr pb (.slice ac KK.length cc) vb5 (fsP fs (i+1))):=PW
        have HHs:Hid (n+1=(keyF fs key (i+1)).length/\whF (keyF fs key (i+1)) en=if x<en then h else z):=by
         refine⟨?_,?_⟩
         ·rw[HE.out.1,List.length_append,List.length_singleton,HNz.out.1]
         ·rw[HE.out.1,whF_snoc,HNz.out.2]
        clear hra hat PW hng hb9 hB d2
        obtain⟨hv,hi⟩:=h
        dsimp only at k1 k2 b61 hne hnb HHs ⊢
        by_cases hx:x<en
        ·go_wp2
         go_quiet (fail)
         go_wp2
         go_roundg (m-(i+1))
         case measure=>omega
         case rel=>exact⟨i+1,n+1,⟨hv,hi⟩,_,vb5,by first |rfl |go_num,rfl,rfl,by first |rfl |go_num,Nat.le_refl _,by omega,⟨HHs.out.1,by rw[HHs.out.2,if_pos hx]⟩,HPW.out.below (Sm.below_dr (Below.refl _ _) nq)⟩
        ·have HX2:Hid (¬ x<en):=hx
         go_wp2
         go_quiet (fail)
         go_wp2
         go_roundg (m-(i+1))
         case measure=>omega
         case rel=>exact⟨i+1,n+1,z,_,vb5,by first |rfl |go_num,rfl,rfl,by first |rfl |go_num,Nat.le_refl _,by omega,⟨HHs.out.1,by rw[HHs.out.2,if_neg (by have:=HX2.out;omega)]⟩,HPW.out.below (Sm.below_dr (Below.refl _ _) nq)⟩
  ·obtain rfl:i=m:=by omega
   have hltI:¬ (i:Int)<(i:Int):=by omega
   obtain⟨rfl,rfl⟩:=HNz.out
   have CW:Hid (Calls Tryz.prog 28 #[.pointer (some ⟨l,0,none⟩),.string key,.int .i64 en] wo fun e w'=>e=.returned (.tuple #[.string (whF (keyF fs key i) en).v,.bool (whF (keyF fs key i) en).is])/\Below w.heap.size w w'):=by
    have h:=HX.out.when HP.out.bel (by have:=HY.out.1;omega) HSz.out en
    rw[Hm.out.1] at h
    exact h
   go_wp2_with first
    | (have:=B7.out;go_at_call 26;refine(CK.out _).mono ?_;rintro e w8 ⟨rfl,b8⟩)
    | (go_at_call 28;refine CW.out.mono ?_;rintro e w7 ⟨rfl,b7⟩;have B7:Hid (Below w.heap.size w w7):=b7;clear b7)
   go_ret
   exact⟨rfl,thn B7.out b8⟩
end
end Go.Proofs.YtdchjncnjgelhaaGreat.Fd
