import Derived.Test.YtkcpclmkbmeigaaGreatMaj
import Derived.Lib.SmallJoins
import Derived.Lib.SlBytesRow
import Derived.Test.YtkcpclmkbmeigaaGreatMai
import Derived.Deep.RegionHeld3
set_option linter.unusedVariables false
set_option linter.unusedSimpArgs false
set_option maxRecDepth 100000
namespace Go.Proofs.YtkcpclmkbmeigaaGreat.Sm
open Go.RowKit
def tab (i:Nat):Array Value:=(Array.range 16).map fun j=>.int .u32 (vI (if j<i then stn 4 (BitVec.ofNat 32 j) else 0#32))
theorem tab_size (i:Nat):(tab i).size=16:=by simp[tab]
theorem tab_get (i j:Nat) (h:j<16):(tab i)[j]?=some (.int .u32 (vI (if j<i then stn 4 (BitVec.ofNat 32 j) else 0#32))):=by
 unfold tab
 rw[Array.getElem?_map,Array.getElem?_range]
 simp[h]
theorem range16:Array.range 16=#[0,1,2,3,4,5,6,7,8,9,10,11,12,13,14,15]:=by decide
theorem tab_zero:#[.int .u32 0,.int .u32 0,.int .u32 0,.int .u32 0,.int .u32 0,.int .u32 0,.int .u32 0,.int .u32 0,.int .u32 0,.int .u32 0,.int .u32 0,.int .u32 0,.int .u32 0,.int .u32 0,.int .u32 0,.int .u32 0]=tab 0:=by
 unfold tab
 rw[range16]
 simp only[List.map_toArray,List.map_cons,List.map_nil]
 rfl
theorem tab_set (i:Nat) (h:i<16):(tab i).setIfInBounds i (.int .u32 (vI (stn 4 (BitVec.ofNat 32 i))))=tab (i+1):=by
 apply Array.ext_getElem?
 intro j
 by_cases hj:j<16
 ·rw[Array.getElem?_setIfInBounds,tab_get _ _ hj,tab_get _ _ hj,tab_size]
  by_cases hij:i=j
  ·subst hij
   simp[h]
  ·have:(j<i+1)=(j<i):=by simp;omega
   simp[hij,this]
 ·rw[Array.getElem?_eq_none (by simp[tab_size];omega),Array.getElem?_eq_none (by simp[tab_size];omega)]
def xT (j:Nat):Int:=vI (stn 4 (BitVec.ofNat 32 j))
theorem tab_full:tab 16=#[.int .u32 (xT 0),.int .u32 (xT 1),.int .u32 (xT 2),.int .u32 (xT 3),.int .u32 (xT 4),.int .u32 (xT 5),.int .u32 (xT 6),.int .u32 (xT 7),.int .u32 (xT 8),.int .u32 (xT 9),.int .u32 (xT 10),.int .u32 (xT 11),.int .u32 (xT 12),.int .u32 (xT 13),.int .u32 (xT 14),.int .u32 (xT 15)]:=by
 unfold tab
 rw[range16]
 simp only[List.map_toArray,List.map_cons,List.map_nil]
 rfl
theorem fourShifts_any (w:World) :
  Calls Tryz.prog 198 #[] w fun e w'=>e=.returned (.agg (tab 16))/\Below w.heap.size w w':=by
 go_enter Tryz.func198,Tryz.ntmps198
 go_wp2
 rw[tab_zero]
 go_loopw [4] (fun x wr=>∃ i:Nat,i<=16/\x=.int .i64 i/\wr=(w.alloc (.cells (tab 0) 279)).alloc (.cells (tab i) 279)) (fun x _=>16-(intOf x).toNat)
 case atStart=>exact⟨0,by omega,rfl,rfl⟩
 case round =>
  obtain⟨i,hi,rfl,rfl⟩:=hrel
  by_cases hlt:i<16
  ·have hd:decide ((i:Int)<16)=true:=by simp;omega
   have hg:=tab_get i i hlt
   rw[if_neg (Nat.lt_irrefl i)] at hg
   go_wp2
   go_loop [3,9] (fun r j=>∃ k:Nat,k<=4/\j=.int .i64 k/\r=.int .u32 (vI (stn k (BitVec.ofNat 32 i)))) (fun _ j=>4-(intOf j).toNat)
   case atStart =>
    refine⟨0,by omega,rfl,?_⟩
    show _=Value.int .u32 (vI (BitVec.ofNat 32 i))
    rw[vI_lit i (by omega)]
   case round =>
    obtain⟨k,hk,rfl,rfl⟩:=hrel
    by_cases hlt2:k<4
    ·go_wp2_with (go_at_call 205;refine(shift_any _ _).mono ?_;rintro e w' ⟨rfl,rfl⟩)
     go_round
     case rel=>exact⟨k+1,by omega,by go_num,by rw[stn_succ]⟩
     case measure=>simp[intOf];omega
    ·have:k=4:=by omega
     subst this
     go_wp2
     go_roundw
     case rel =>
      exact⟨i+1,by omega,by go_num,by rw[← tab_set i hlt]⟩
     case measure=>simp[intOf];omega
  ·have:i=16:=by omega
   subst this
   rw[tab_full,← tab_zero]
   go_wp2
   refine bodyPost_ret (v:=.agg (tab 16)) ?_ rfl ⟨rfl,?_⟩
   ·rw[tab_full]
    simp[results,Tryz.results19,go_sem]
   ·exact((Below.refl _ _).alloc (Nat.le_refl _) _).alloc (by simp) _
theorem fourShifts_lit (w:World) :
  Calls Tryz.prog 198 #[] w fun e w'=>e=.returned (.agg #[.int .u32 (xT 0),.int .u32 (xT 1),.int .u32 (xT 2),.int .u32 (xT 3),.int .u32 (xT 4),.int .u32 (xT 5),.int .u32 (xT 6),.int .u32 (xT 7),.int .u32 (xT 8),.int .u32 (xT 9),.int .u32 (xT 10),.int .u32 (xT 11),.int .u32 (xT 12),.int .u32 (xT 13),.int .u32 (xT 14),.int .u32 (xT 15)])/\Below w.heap.size w w':=by
 have:=fourShifts_any w
 rw[tab_full] at this
 exact this
theorem ofB_vI (b:UInt8):(b.toNat:Int)=vI (ofB b):=by
 unfold vI ofB
 have:=b.toNat_lt
 rw[BitVec.toNat_ofNat]
 omega
theorem ofB_mod (b:UInt8):(b.toNat:Int) % 4294967296=vI (ofB b):=by
 rw[← ofB_vI]
 have:=b.toNat_lt
 omega
theorem half_facts (c:R):∃ (n:Nat) (s d:R),bits .and .u32 (vI c) 15=(n:Int)/\n<16/\(tab 16)[n]?=some (.int .u32 (vI d))/\vI c / (16:Int)=vI s/\bits .xor .u32 (vI s) (vI d)=vI (stn 4 c):=by
 have e15:(15:Int)=vI 15#32:=rfl
 have hlt:(c &&& 15#32).toNat<16:=by
  rw[BitVec.toNat_and]
  have:c.toNat &&& (15#32).toNat<=15:=Nat.and_le_right
  omega
 refine⟨(c &&& 15#32).toNat,c >>> 4,stn 4 (c &&& 15#32),?_,hlt,?_,shr32_4 c,?_⟩
 ·rw[e15,and32];rfl
 ·rw[tab_get 16 _ hlt,if_pos hlt,BitVec.ofNat_toNat]
  simp
 ·rw[xor32,← four_steps]
theorem not32 (n:Int):bits .xor .u32 IntKind.u32.max (n % 4294967296)=vI (BitVec.ofInt 32 n ^^^ ones):=by
 have e1:IntKind.u32.max=vI ones:=rfl
 have e2:n % 4294967296=vI (BitVec.ofInt 32 n):=by
  unfold vI
  rw[BitVec.toNat_ofInt]
  omega
 rw[e1,e2,xor32,BitVec.xor_comm]
theorem not32_vI (c:R):bits .xor .u32 IntKind.u32.max (vI c)=vI (c ^^^ ones):=by
 have e1:IntKind.u32.max=vI ones:=rfl
 rw[e1,xor32,BitVec.xor_comm]
theorem take_snoc (s:ByteArray) (k:Nat) (h:k<s.size):s.data.toList.take (k+1)=s.data.toList.take k++[s[k]]:=by
 rw[List.take_succ_eq_append_getElem (by simpa using h)];rfl
theorem bytesRow_cell (w:World) (s:ByteArray) (c m:Nat) (k:Nat) (h:k<s.size) :
  (w.alloc (.cells (bytesRow s c) 5 (m,m+1))).cell? ⟨w.heap.size,k,none⟩=some (.int .u8 (s[k].toNat:Int)):=by
 rw[World.cell?_alloc_mark]
 have h':k<s.data.size:=h
 simp only[bytesRow]
 rw[Array.getElem?_append_left (by simpa using h')]
 rw[Array.getElem?_map,Array.getElem?_eq_getElem h']
 rfl
theorem runB_snoc (c:R) (l:List UInt8) (b:UInt8):runB c (l++[b])=stn 4 (stn 4 (runB c l ^^^ ofB b)):=by
 rw[runB_append,← stn_add]
 rfl
theorem More_any (n:Int) (s:ByteArray) (w:World) (hs:s.size<=281474976710656) :
  Calls Tryz.prog 176 #[.int .i64 n,.string s] w fun e w'=>e=.returned (.int .i64 (vI (moreB (BitVec.ofInt 32 n) s.data.toList)))/\Below w.heap.size w w':=by
 have hcv:=fun w s=>run_bytes_of_string (P:=Tryz.prog) w 9 94 5 s Tryz.underlying9 Tryz.underlying94 Tryz.underlying5
 obtain⟨C,hC⟩:∃ C,BitVec.ofInt 32 n ^^^ ones=C:=⟨_,rfl⟩
 have h0:=not32 n
 have hm:moreB (BitVec.ofInt 32 n) s.data.toList=runB C s.data.toList ^^^ ones:=by rw[moreB,hC]
 rw[hC] at h0
 rw[hm]
 clear hm hC
 go_enter Tryz.func176,Tryz.ntmps176
 go_wp2_with (go_at_call 198;refine(fourShifts_lit _).mono ?_;rintro e w1 ⟨rfl,hb1⟩)
 rw[← tab_full]
 generalize grownCap (w1.alloc (Obj.cells (tab 16) 279)) s.size 0 5=gc
 have hrow:∀ j (hj:j<s.size),((w1.alloc (Obj.cells (tab 16) 279)).alloc (Obj.cells (bytesRow s gc) 5 ((bytesRow s gc).size,(bytesRow s gc).size+1))).drew.cell? ⟨w1.heap.size+1,j,none⟩=some (.int .u8 (s[j].toNat:Int)):=by
  intro j hj
  have:=bytesRow_cell (w1.alloc (Obj.cells (tab 16) 279)) s gc (bytesRow s gc).size j hj
  simpa[go_sem] using this
 have htab:∀ j,((w1.alloc (Obj.cells (tab 16) 279)).alloc (Obj.cells (bytesRow s gc) 5 ((bytesRow s gc).size,(bytesRow s gc).size+1))).drew.cell? ⟨w1.heap.size,j,none⟩=(tab 16)[j]?:=by
  intro j
  simp[go_sem]
 have hbel:Below w.heap.size w ((w1.alloc (Obj.cells (tab 16) 279)).alloc (Obj.cells (bytesRow s gc) 5 ((bytesRow s gc).size,(bytesRow s gc).size+1))).drew :=
  ((hb1.alloc hb1.size _).alloc (by have:=hb1.size;simp;omega) _).drew
 generalize ((w1.alloc (Obj.cells (tab 16) 279)).alloc (Obj.cells (bytesRow s gc) 5 ((bytesRow s gc).size,(bytesRow s gc).size+1))).drew=W at hrow htab hbel ⊢
 have HR:Hid _:=hrow
 have HT:Hid _:=htab
 have HB:Hid _:=hbel
 clear hrow htab hbel hcv
 go_loop [6,16] (fun r i=>∃ j:Nat,j<=s.size/\i=.int .i64 j/\r=.int .u32 (vI (runB C (s.data.toList.take j)))) (fun _ i=>s.size-(intOf i).toNat)
 case atStart=>exact⟨0,Nat.zero_le _,rfl,rfl⟩
 case round =>
  obtain⟨j,hj,rfl,rfl⟩:=hrel
  by_cases hlt:j<s.size
  ·have hc:=HR.out j hlt
   have HS:Hid _:=runB_snoc C (s.data.toList.take j) s[j]
   have HS2:Hid _:=take_snoc s j hlt
   have e1:=xor32 (runB C (s.data.toList.take j)) (ofB s[j])
   rw[← ofB_mod] at e1
   generalize runB C (s.data.toList.take j)=c0 at *
   generalize c0 ^^^ ofB s[j]=c1 at *
   obtain⟨n1,s1,d1,f1,g1,t1,k1,x1⟩:=half_facts c1
   have T1:=HT.out n1
   rw[t1] at T1
   generalize stn 4 c1=c2 at *
   obtain⟨n2,s2,d2,f2,g2,t2,k2,x2⟩:=half_facts c2
   have T2:=HT.out n2
   rw[t2] at T2
   generalize stn 4 c2=c3 at *
   clear t1 t2
   go_wp2
   go_round
   case rel=>exact⟨j+1,by omega,by go_num,by rw[HS2.out,HS.out]⟩
   case measure=>simp[intOf];omega
  ·have hn:=not32_vI (runB C (s.data.toList.take j))
   have hw:=wrap64_vI (runB C (s.data.toList.take j) ^^^ ones)
   rw[List.take_of_length_le (by simp;omega)] at *
   go_wp2
   go_ret
   exact⟨rfl,HB.out⟩
theorem Sum_any (s:ByteArray) (w:World) (hs:s.size<=281474976710656) :
  Calls Tryz.prog 142 #[.string s] w fun e w'=>e=.returned (.int .i64 (vI (sumB s.data.toList)))/\Below w.heap.size w w':=by
 have C1:Hid (∀ w,Calls Tryz.prog 176 #[.int .i64 0,.string s] w fun e w'=>e=.returned (.int .i64 (vI (sumB s.data.toList)))/\Below w.heap.size w w'):=by
  intro w
  have:=More_any 0 s w hs
  rw[show BitVec.ofInt 32 0=0#32 from rfl,more_zero] at this
  exact this
 clear hs
 go_enter Tryz.func142,Tryz.ntmps142
 go_wp2_with (go_at_call 176;refine(C1.out _).mono ?_;rintro e w1 ⟨rfl,hb1⟩)
 go_ret
 exact⟨rfl,hb1⟩
open Go.RowKit Go.Proofs.YtkcpclmkbmeigaaGreat.Pk
def sumI (s:ByteArray):Int:=vI (sumB s.data.toList)
theorem Sum_I (s:ByteArray) (w:World) (hs:s.size<=281474976710656) :
  Calls Tryz.prog 142 #[.string s] w fun e w'=>e=.returned (.int .i64 (sumI s))/\Below w.heap.size w w':=Sum_any s w hs
theorem below_dr {b:Nat} {a w:World} (h:Below b a w) (n:Nat):Below b a (w.drewN n):=⟨h.os,h.tape,h.output,h.size,h.block⟩
theorem nil_append (s:ByteArray):(⟨#[]⟩:ByteArray)++s=s:=by apply ByteArray.ext;simp[ByteArray.data_append]
theorem Put_four (n:Int) (w:World) (h0:0<=n) (hn:n<4294967296) :
  Calls Tryz.prog 116 #[.string ⟨#[]⟩,.int .i64 n,.int .i64 4] w fun e w'=>e=.returned (.tuple #[.string (beS n.toNat 4),.int .i64 0])/\Below w.heap.size w w':=by
 have hz:(beS n.toNat 4).size<=6:=by rw[beS_size];omega
 have C1:Hid (∀ w,Calls Tryz.prog 141 #[.int .i64 n,.int .i64 4] w fun e w'=>e=.returned (.string (beS n.toNat 4))/\Below w.heap.size w w'):=by
  intro w
  have h:=num_4 n.toNat w (by omega)
  rw[Int.toNat_of_nonneg h0] at h
  exact h
 go_enter Tryz.func116,Tryz.ntmps116
 go_wp2_with (first |(go_at_call 105;refine(isWidth_any _ _).mono ?_;rintro e w' ⟨rfl,rfl⟩) |(go_at_call 141;refine(C1.out _).mono ?_;rintro e w1 ⟨rfl,hb⟩))
 go_ret2
 rw[nil_append]
 exact⟨rfl,hb⟩
theorem Read_any (s:ByteArray) (w:World) :
  Calls Tryz.prog 73 #[.string s] w fun e w'=>e=.returned (.pointer (some ⟨w.heap.size,0,none⟩))/\isRd w' w.heap.size s 0/\Below w.heap.size w w':=by
 go_enter Tryz.func73,Tryz.ntmps73
 go_wp2
 go_ret
 exact⟨rfl,(MapKept.heap_alloc w _).1,(Below.refl _ _).alloc (Nat.le_refl _) _⟩
theorem sumI_nonneg (s:ByteArray):0<=sumI s:=vI_nonneg _
theorem sumI_lt (s:ByteArray):sumI s<4294967296:=vI_lt _
def sealV (s:ByteArray):ByteArray:=beS (sumI s).toNat 4++s
theorem Seal_any (s:ByteArray) (w:World) (hs:s.size<=140737488351232) :
  Calls Tryz.prog 117 #[.string s] w fun e w'=>e=.returned (.string (sealV s))/\Below w.heap.size w w':=by
 have hz:(beS (sumI s).toNat 4).size<=6:=by rw[beS_size];omega
 have C1:Hid _:=fun w=>Sum_I s w (by omega)
 have C2:Hid _:=fun w=>Put_four (sumI s) w (sumI_nonneg s) (sumI_lt s)
 have HV:Hid (sealV s=beS (sumI s).toNat 4++s):=by rfl
 generalize sumI s=n at *
 generalize sealV s=v at *
 generalize beS n.toNat 4=b at *
 go_enter Tryz.func117,Tryz.ntmps117
 go_wp2_with (first |(go_at_call 142;refine(C1.out _).mono ?_;rintro e w1 ⟨rfl,hb1⟩) |(go_at_call 116;refine(C2.out _).mono ?_;rintro e w2 ⟨rfl,hb2⟩))
 go_ret
 rw[HV.out]
 exact⟨rfl,hb1.trans (hb2.mono hb1.size)⟩
def openV (s:ByteArray):ByteArray × Int :=
 if s.size<4 then(⟨#[]⟩,2) else if sumI (s.extract 4 s.size)=beN (s.extract 0 4).data.toList then(s.extract 4 s.size,0) else(⟨#[]⟩,5)
theorem rdNum_four (s:ByteArray) (h:¬ s.size<4):rdNum s 0 4=(beN (s.extract 0 4).data.toList,s.extract 4 s.size,0):=by
 have e1:rdNumSt s 0 4=(s,0):=by unfold rdNumSt;rw[if_neg (by omega)]
 have e2:rdRaw s 0 4=(s.extract 0 4,s.extract 4 s.size,0):=rdRaw_fits (by omega) (by omega)
 unfold rdNum
 rw[e1]
 dsimp only
 rw[e2]
theorem rdNum_short (s:ByteArray) (h:s.size<4):rdNum s 0 4=(0,⟨#[]⟩,2):=by
 have e1:rdNumSt s 0 4=(s,0):=by unfold rdNumSt;rw[if_neg (by omega)]
 have e2:rdRaw s 0 4=(⟨#[]⟩,⟨#[]⟩,2):=rdRaw_short (by omega) (by omega)
 unfold rdNum
 rw[e1]
 dsimp only
 rw[e2]
 rfl
theorem rdRaw_all (l:ByteArray):rdRaw l 0 (l.size:Int)=(l,⟨#[]⟩,0):=by
 rw[rdRaw_fits (by omega) (by omega),Int.toNat_natCast]
 have e1:l.extract 0 l.size=l:=by apply ByteArray.ext;simp[ByteArray.data_extract]
 have e2:l.extract l.size l.size=⟨#[]⟩:=by apply ByteArray.ext;simp[ByteArray.data_extract]
 rw[e1,e2]
set_option maxHeartbeats 1000000 in
theorem Open_any (s:ByteArray) (w:World) (hs:s.size<=140737488351232) :
  Calls Tryz.prog 133 #[.string s] w fun e w'=>e=.returned (.tuple #[.string (openV s).1,.int .i64 (openV s).2])/\Below w.heap.size w w':=by
 unfold openV
 by_cases h4:s.size<4
 ·rw[if_pos h4]
  have c1:=fun b w h=>Num_any b s 0 4 w hs h
  rw[rdNum_short s h4] at c1
  dsimp only at c1
  have C1:Hid _:=c1
  have C2:Hid _:=fun b w h=>Left_any b ⟨#[]⟩ 2 w (Nat.zero_le _) h
  have c3:=fun b w h=>Raw_any b ⟨#[]⟩ 2 0 w (Nat.zero_le _) h
  rw[rdRaw_had (by decide)] at c3
  dsimp only at c3
  have C3:Hid _:=c3
  have C4:Hid _:=fun b w h=>Err_any b ⟨#[]⟩ 2 w h
  clear c1 c3 hs h4
  go_enter Tryz.func133,Tryz.ntmps133
  go_wp2_with (first |(go_at_call 73;refine(Read_any _ _).mono ?_;rintro e w1 ⟨rfl,h1,b1⟩) |(go_at_call 74;refine(C1.out _ _ h1).mono ?_;rintro e w2 ⟨rfl,h2,o2⟩) |(go_at_call 108;refine(C2.out _ _ h2).mono ?_;rintro e w3 ⟨rfl,rfl⟩) |(go_at_call 76;refine(C3.out _ _ h2).mono ?_;rintro e w4 ⟨rfl,h4,o4⟩) |(go_at_call 109;refine(C4.out _ _ h4).mono ?_;rintro e w5 ⟨rfl,rfl⟩))
  go_ret2
  exact⟨rfl,b1.trans ((o2.trans o4).below (Nat.le_refl _) b1.size)⟩
 ·rw[if_neg h4]
  have c1:=fun b w h=>Num_any b s 0 4 w hs h
  rw[rdNum_four s h4] at c1
  dsimp only at c1
  have hl:(s.extract 4 s.size).size<=140737488351232:=by rw[ByteArray.size_extract];omega
  generalize s.extract 4 s.size=l at *
  generalize beN (s.extract 0 4).data.toList=k at *
  have C1:Hid _:=c1
  have C2:Hid _:=fun b w h=>Left_any b l 0 w hl h
  have c3:=fun b w h=>Raw_any b l 0 l.size w hl h
  rw[rdRaw_all] at c3
  dsimp only at c3
  have C3:Hid _:=c3
  have C4:Hid _:=fun b w h=>Err_any b ⟨#[]⟩ 0 w h
  have C5:Hid _:=fun w=>Sum_I l w (by omega)
  clear c1 c3 hs h4 hl
  by_cases he:sumI l=k
  ·rw[if_pos he]
   have ht:(sumI l !=(k:Int))=false:=by rw[he];simp
   clear he
   go_enter Tryz.func133,Tryz.ntmps133
   go_wp2_with (first |(go_at_call 73;refine(Read_any _ _).mono ?_;rintro e w1 ⟨rfl,h1,b1⟩) |(go_at_call 74;refine(C1.out _ _ h1).mono ?_;rintro e w2 ⟨rfl,h2,o2⟩) |(go_at_call 108;refine(C2.out _ _ h2).mono ?_;rintro e w3 ⟨rfl,rfl⟩) |(go_at_call 76;refine(C3.out _ _ h2).mono ?_;rintro e w4 ⟨rfl,h4,o4⟩) |(go_at_call 109;refine(C4.out _ _ h4).mono ?_;rintro e w5 ⟨rfl,rfl⟩) |(go_at_call 142;refine(C5.out _).mono ?_;rintro e w6 ⟨rfl,b6⟩))
   go_ret2
   have b4:=b1.trans ((o2.trans o4).below (Nat.le_refl _) b1.size)
   exact⟨rfl,b4.trans (b6.mono b4.size)⟩
  ·rw[if_neg he]
   have ht:(sumI l !=(k:Int))=true:=by simpa using he
   clear he
   go_enter Tryz.func133,Tryz.ntmps133
   go_wp2_with (first |(go_at_call 73;refine(Read_any _ _).mono ?_;rintro e w1 ⟨rfl,h1,b1⟩) |(go_at_call 74;refine(C1.out _ _ h1).mono ?_;rintro e w2 ⟨rfl,h2,o2⟩) |(go_at_call 108;refine(C2.out _ _ h2).mono ?_;rintro e w3 ⟨rfl,rfl⟩) |(go_at_call 76;refine(C3.out _ _ h2).mono ?_;rintro e w4 ⟨rfl,h4,o4⟩) |(go_at_call 109;refine(C4.out _ _ h4).mono ?_;rintro e w5 ⟨rfl,rfl⟩) |(go_at_call 142;refine(C5.out _).mono ?_;rintro e w6 ⟨rfl,b6⟩))
   go_ret2
   have b4:=b1.trans ((o2.trans o4).below (Nat.le_refl _) b1.size)
   exact⟨rfl,b4.trans (b6.mono b4.size)⟩
theorem open_seal (s:ByteArray):openV (beS (sumI s).toNat 4++s)=(s,0):=by
 have hz:=beS_size (sumI s).toNat 4
 have h0:=sumI_nonneg s
 have h1:=sumI_lt s
 have e1:=extract_left (beS (sumI s).toNat 4) s
 have e2:=extract_right (beS (sumI s).toNat 4) s
 have e3:(beS (sumI s).toNat 4).data.toList=be (sumI s).toNat 4:=by simp[beS]
 have e4:=beN_be 4 (sumI s).toNat (by omega)
 rw[hz] at e1 e2
 unfold openV
 rw[if_neg (by rw[ByteArray.size_append,hz];omega),e1,e2,e3,e4,if_pos (by omega)]
end Go.Proofs.YtkcpclmkbmeigaaGreat.Sm
