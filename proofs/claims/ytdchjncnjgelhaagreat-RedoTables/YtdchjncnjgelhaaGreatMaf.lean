import Derived.Test.YtdchjncnjgelhaaGreatMae
import Derived.Lib.SmallJoins
import Derived.Lib.SlBytesRow
import Derived.Test.YtdchjncnjgelhaaGreatMac
import Derived.Deep.RegionHeld3
import Derived.Test.YtdchjncnjgelhaaGreatMad
set_option linter.unusedVariables false
set_option linter.unusedSimpArgs false
set_option maxRecDepth 100000
namespace Go.Proofs.YtdchjncnjgelhaaGreat.Sm
open Go.RowKit
theorem ofB_vI (b:UInt8):(b.toNat:Int)=vI (ofB b):=by
 unfold vI ofB
 have:=b.toNat_lt
 rw[BitVec.toNat_ofNat]
 omega
theorem ofB_mod (b:UInt8):(b.toNat:Int) % 4294967296=vI (ofB b):=by
 rw[← ofB_vI]
 have:=b.toNat_lt
 omega
theorem half_facts (c:R):∃ (n:Nat) (s d:R),bits .and .u32 (vI c) 15=(n:Int)/\n<16/\(tab 16)[n]?=some (.int .u32 (vI d))/\vI c / (16:Int)=vI s/\bits .xor .u32 (vI s) (vI d)=vI (stn 4 c):=by
 have e15:(15:Int)=vI 15#32:=rfl
 have hlt:(c &&& 15#32).toNat<16:=by
  rw[BitVec.toNat_and]
  have:c.toNat &&& (15#32).toNat<=15:=Nat.and_le_right
  omega
 refine⟨(c &&& 15#32).toNat,c >>> 4,stn 4 (c &&& 15#32),?_,hlt,?_,shr32_4 c,?_⟩
 ·rw[e15,and32];rfl
 ·rw[tab_get 16 _ hlt,if_pos hlt,BitVec.ofNat_toNat]
  simp
 ·rw[xor32,← four_steps]
theorem not32 (n:Int):bits .xor .u32 IntKind.u32.max (n % 4294967296)=vI (BitVec.ofInt 32 n ^^^ ones):=by
 have e1:IntKind.u32.max=vI ones:=rfl
 have e2:n % 4294967296=vI (BitVec.ofInt 32 n):=by
  unfold vI
  rw[BitVec.toNat_ofInt]
  omega
 rw[e1,e2,xor32,BitVec.xor_comm]
theorem not32_vI (c:R):bits .xor .u32 IntKind.u32.max (vI c)=vI (c ^^^ ones):=by
 have e1:IntKind.u32.max=vI ones:=rfl
 rw[e1,xor32,BitVec.xor_comm]
theorem take_snoc (s:ByteArray) (k:Nat) (h:k<s.size):s.data.toList.take (k+1)=s.data.toList.take k++[s[k]]:=by
 rw[List.take_succ_eq_append_getElem (by simpa using h)];rfl
theorem bytesRow_cell (w:World) (s:ByteArray) (c m:Nat) (k:Nat) (h:k<s.size) :
  (w.alloc (.cells (bytesRow s c) 5 (m,m+1))).cell? ⟨w.heap.size,k,none⟩=some (.int .u8 (s[k].toNat:Int)):=by
 rw[World.cell?_alloc_mark]
 have h':k<s.data.size:=h
 simp only[bytesRow]
 rw[Array.getElem?_append_left (by simpa using h')]
 rw[Array.getElem?_map,Array.getElem?_eq_getElem h']
 rfl
theorem runB_snoc (c:R) (l:List UInt8) (b:UInt8):runB c (l++[b])=stn 4 (stn 4 (runB c l ^^^ ofB b)):=by
 rw[runB_append,← stn_add]
 rfl
theorem More_any (n:Int) (s:ByteArray) (w:World) (hs:s.size<=281474976710656) :
  Calls Tryz.prog 167 #[.int .i64 n,.string s] w fun e w'=>e=.returned (.int .i64 (vI (moreB (BitVec.ofInt 32 n) s.data.toList)))/\Below w.heap.size w w':=by
 have hcv:=fun w s=>run_bytes_of_string (P:=Tryz.prog) w 9 83 5 s Tryz.underlying9 Tryz.underlying83 Tryz.underlying5
 obtain⟨C,hC⟩:∃ C,BitVec.ofInt 32 n ^^^ ones=C:=⟨_,rfl⟩
 have h0:=not32 n
 have hm:moreB (BitVec.ofInt 32 n) s.data.toList=runB C s.data.toList ^^^ ones:=by rw[moreB,hC]
 rw[hC] at h0
 rw[hm]
 clear hm hC
 go_enter Tryz.func167,Tryz.ntmps167
 go_wp2_with (go_at_call 190;refine(fourShifts_lit _).mono ?_;rintro e w1 ⟨rfl,hb1⟩)
 rw[← tab_full]
 generalize grownCap (w1.alloc (Obj.cells (tab 16) 273)) s.size 0 5=gc
 have hrow:∀ j (hj:j<s.size),((w1.alloc (Obj.cells (tab 16) 273)).alloc (Obj.cells (bytesRow s gc) 5 ((bytesRow s gc).size,(bytesRow s gc).size+1))).drew.cell? ⟨w1.heap.size+1,j,none⟩=some (.int .u8 (s[j].toNat:Int)):=by
  intro j hj
  have:=bytesRow_cell (w1.alloc (Obj.cells (tab 16) 273)) s gc (bytesRow s gc).size j hj
  simpa[go_sem] using this
 have htab:∀ j,((w1.alloc (Obj.cells (tab 16) 273)).alloc (Obj.cells (bytesRow s gc) 5 ((bytesRow s gc).size,(bytesRow s gc).size+1))).drew.cell? ⟨w1.heap.size,j,none⟩=(tab 16)[j]?:=by
  intro j
  simp[go_sem]
 have hbel:Below w.heap.size w ((w1.alloc (Obj.cells (tab 16) 273)).alloc (Obj.cells (bytesRow s gc) 5 ((bytesRow s gc).size,(bytesRow s gc).size+1))).drew :=
  ((hb1.alloc hb1.size _).alloc (by have:=hb1.size;simp;omega) _).drew
 generalize ((w1.alloc (Obj.cells (tab 16) 273)).alloc (Obj.cells (bytesRow s gc) 5 ((bytesRow s gc).size,(bytesRow s gc).size+1))).drew=W at hrow htab hbel ⊢
 have HR:Hid _:=hrow
 have HT:Hid _:=htab
 have HB:Hid _:=hbel
 clear hrow htab hbel hcv
 go_loop [6,16] (fun r i=>∃ j:Nat,j<=s.size/\i=.int .i64 j/\r=.int .u32 (vI (runB C (s.data.toList.take j)))) (fun _ i=>s.size-(intOf i).toNat)
 case atStart=>exact⟨0,Nat.zero_le _,rfl,rfl⟩
 case round =>
  obtain⟨j,hj,rfl,rfl⟩:=hrel
  by_cases hlt:j<s.size
  ·have hc:=HR.out j hlt
   have HS:Hid _:=runB_snoc C (s.data.toList.take j) s[j]
   have HS2:Hid _:=take_snoc s j hlt
   have e1:=xor32 (runB C (s.data.toList.take j)) (ofB s[j])
   rw[← ofB_mod] at e1
   generalize runB C (s.data.toList.take j)=c0 at *
   generalize c0 ^^^ ofB s[j]=c1 at *
   obtain⟨n1,s1,d1,f1,g1,t1,k1,x1⟩:=half_facts c1
   have T1:=HT.out n1
   rw[t1] at T1
   generalize stn 4 c1=c2 at *
   obtain⟨n2,s2,d2,f2,g2,t2,k2,x2⟩:=half_facts c2
   have T2:=HT.out n2
   rw[t2] at T2
   generalize stn 4 c2=c3 at *
   clear t1 t2
   go_wp2
   go_round
   case rel=>exact⟨j+1,by omega,by go_num,by rw[HS2.out,HS.out]⟩
   case measure=>simp[intOf];omega
  ·have hn:=not32_vI (runB C (s.data.toList.take j))
   have hw:=wrap64_vI (runB C (s.data.toList.take j) ^^^ ones)
   rw[List.take_of_length_le (by simp;omega)] at *
   go_wp2
   go_ret
   exact⟨rfl,HB.out⟩
theorem Sum_any (s:ByteArray) (w:World) (hs:s.size<=281474976710656) :
  Calls Tryz.prog 132 #[.string s] w fun e w'=>e=.returned (.int .i64 (vI (sumB s.data.toList)))/\Below w.heap.size w w':=by
 have C1:Hid (∀ w,Calls Tryz.prog 167 #[.int .i64 0,.string s] w fun e w'=>e=.returned (.int .i64 (vI (sumB s.data.toList)))/\Below w.heap.size w w'):=by
  intro w
  have:=More_any 0 s w hs
  rw[show BitVec.ofInt 32 0=0#32 from rfl,more_zero] at this
  exact this
 clear hs
 go_enter Tryz.func132,Tryz.ntmps132
 go_wp2_with (go_at_call 167;refine(C1.out _).mono ?_;rintro e w1 ⟨rfl,hb1⟩)
 go_ret
 exact⟨rfl,hb1⟩
open Go.RowKit Go.Proofs.YtdchjncnjgelhaaGreat.Pk
def sumI (s:ByteArray):Int:=vI (sumB s.data.toList)
theorem Sum_I (s:ByteArray) (w:World) (hs:s.size<=281474976710656) :
  Calls Tryz.prog 132 #[.string s] w fun e w'=>e=.returned (.int .i64 (sumI s))/\Below w.heap.size w w':=Sum_any s w hs
theorem below_dr {b:Nat} {a w:World} (h:Below b a w) (n:Nat):Below b a (w.drewN n):=⟨h.os,h.tape,h.output,h.size,h.block⟩
theorem nil_append (s:ByteArray):(⟨#[]⟩:ByteArray)++s=s:=by apply ByteArray.ext;simp[ByteArray.data_append]
theorem Put_four (n:Int) (w:World) (h0:0<=n) (hn:n<4294967296) :
  Calls Tryz.prog 103 #[.string ⟨#[]⟩,.int .i64 n,.int .i64 4] w fun e w'=>e=.returned (.tuple #[.string (beS n.toNat 4),.int .i64 0])/\Below w.heap.size w w':=by
 have hz:(beS n.toNat 4).size<=6:=by rw[beS_size];omega
 have C1:Hid (∀ w,Calls Tryz.prog 131 #[.int .i64 n,.int .i64 4] w fun e w'=>e=.returned (.string (beS n.toNat 4))/\Below w.heap.size w w'):=by
  intro w
  have h:=num_4 n.toNat w (by omega)
  rw[Int.toNat_of_nonneg h0] at h
  exact h
 go_enter Tryz.func103,Tryz.ntmps103
 go_wp2_with (first |(go_at_call 92;refine(isWidth_any _ _).mono ?_;rintro e w' ⟨rfl,rfl⟩) |(go_at_call 131;refine(C1.out _).mono ?_;rintro e w1 ⟨rfl,hb⟩))
 go_ret2
 rw[nil_append]
 exact⟨rfl,hb⟩
theorem Read_any (s:ByteArray) (w:World) :
  Calls Tryz.prog 62 #[.string s] w fun e w'=>e=.returned (.pointer (some ⟨w.heap.size,0,none⟩))/\isRd w' w.heap.size s 0/\Below w.heap.size w w':=by
 go_enter Tryz.func62,Tryz.ntmps62
 go_wp2
 go_ret
 exact⟨rfl,(MapKept.heap_alloc w _).1,(Below.refl _ _).alloc (Nat.le_refl _) _⟩
theorem sumI_nonneg (s:ByteArray):0<=sumI s:=vI_nonneg _
theorem sumI_lt (s:ByteArray):sumI s<4294967296:=vI_lt _
def sealV (s:ByteArray):ByteArray:=beS (sumI s).toNat 4++s
theorem Seal_any (s:ByteArray) (w:World) (hs:s.size<=140737488351232) :
  Calls Tryz.prog 104 #[.string s] w fun e w'=>e=.returned (.string (sealV s))/\Below w.heap.size w w':=by
 have hz:(beS (sumI s).toNat 4).size<=6:=by rw[beS_size];omega
 have C1:Hid _:=fun w=>Sum_I s w (by omega)
 have C2:Hid _:=fun w=>Put_four (sumI s) w (sumI_nonneg s) (sumI_lt s)
 have HV:Hid (sealV s=beS (sumI s).toNat 4++s):=by rfl
 generalize sumI s=n at *
 generalize sealV s=v at *
 generalize beS n.toNat 4=b at *
 go_enter Tryz.func104,Tryz.ntmps104
 go_wp2_with (first |(go_at_call 132;refine(C1.out _).mono ?_;rintro e w1 ⟨rfl,hb1⟩) |(go_at_call 103;refine(C2.out _).mono ?_;rintro e w2 ⟨rfl,hb2⟩))
 go_ret
 rw[HV.out]
 exact⟨rfl,hb1.trans (hb2.mono hb1.size)⟩
def openV (s:ByteArray):ByteArray × Int :=
 if s.size<4 then(⟨#[]⟩,2) else if sumI (s.extract 4 s.size)=beN (s.extract 0 4).data.toList then(s.extract 4 s.size,0) else(⟨#[]⟩,5)
theorem rdNum_four (s:ByteArray) (h:¬ s.size<4):rdNum s 0 4=(beN (s.extract 0 4).data.toList,s.extract 4 s.size,0):=by
 have e1:rdNumSt s 0 4=(s,0):=by unfold rdNumSt;rw[if_neg (by omega)]
 have e2:rdRaw s 0 4=(s.extract 0 4,s.extract 4 s.size,0):=rdRaw_fits (by omega) (by omega)
 unfold rdNum
 rw[e1]
 dsimp only
 rw[e2]
theorem rdNum_short (s:ByteArray) (h:s.size<4):rdNum s 0 4=(0,⟨#[]⟩,2):=by
 have e1:rdNumSt s 0 4=(s,0):=by unfold rdNumSt;rw[if_neg (by omega)]
 have e2:rdRaw s 0 4=(⟨#[]⟩,⟨#[]⟩,2):=rdRaw_short (by omega) (by omega)
 unfold rdNum
 rw[e1]
 dsimp only
 rw[e2]
 rfl
theorem rdRaw_all (l:ByteArray):rdRaw l 0 (l.size:Int)=(l,⟨#[]⟩,0):=by
 rw[rdRaw_fits (by omega) (by omega),Int.toNat_natCast]
 have e1:l.extract 0 l.size=l:=by apply ByteArray.ext;simp[ByteArray.data_extract]
 have e2:l.extract l.size l.size=⟨#[]⟩:=by apply ByteArray.ext;simp[ByteArray.data_extract]
 rw[e1,e2]
set_option maxHeartbeats 1000000 in
theorem Open_any (s:ByteArray) (w:World) (hs:s.size<=140737488351232) :
  Calls Tryz.prog 123 #[.string s] w fun e w'=>e=.returned (.tuple #[.string (openV s).1,.int .i64 (openV s).2])/\Below w.heap.size w w':=by
 unfold openV
 by_cases h4:s.size<4
 ·rw[if_pos h4]
  have c1:=fun b w h=>Num_any b s 0 4 w hs h
  rw[rdNum_short s h4] at c1
  dsimp only at c1
  have C1:Hid _:=c1
  have C2:Hid _:=fun b w h=>Left_any b ⟨#[]⟩ 2 w (Nat.zero_le _) h
  have c3:=fun b w h=>Raw_any b ⟨#[]⟩ 2 0 w (Nat.zero_le _) h
  rw[rdRaw_had (by decide)] at c3
  dsimp only at c3
  have C3:Hid _:=c3
  have C4:Hid _:=fun b w h=>Err_any b ⟨#[]⟩ 2 w h
  clear c1 c3 hs h4
  go_enter Tryz.func123,Tryz.ntmps123
  go_wp2_with (first |(go_at_call 62;refine(Read_any _ _).mono ?_;rintro e w1 ⟨rfl,h1,b1⟩) |(go_at_call 63;refine(C1.out _ _ h1).mono ?_;rintro e w2 ⟨rfl,h2,o2⟩) |(go_at_call 95;refine(C2.out _ _ h2).mono ?_;rintro e w3 ⟨rfl,rfl⟩) |(go_at_call 65;refine(C3.out _ _ h2).mono ?_;rintro e w4 ⟨rfl,h4,o4⟩) |(go_at_call 96;refine(C4.out _ _ h4).mono ?_;rintro e w5 ⟨rfl,rfl⟩))
  go_ret2
  exact⟨rfl,b1.trans ((o2.trans o4).below (Nat.le_refl _) b1.size)⟩
 ·rw[if_neg h4]
  have c1:=fun b w h=>Num_any b s 0 4 w hs h
  rw[rdNum_four s h4] at c1
  dsimp only at c1
  have hl:(s.extract 4 s.size).size<=140737488351232:=by rw[ByteArray.size_extract];omega
  generalize s.extract 4 s.size=l at *
  generalize beN (s.extract 0 4).data.toList=k at *
  have C1:Hid _:=c1
  have C2:Hid _:=fun b w h=>Left_any b l 0 w hl h
  have c3:=fun b w h=>Raw_any b l 0 l.size w hl h
  rw[rdRaw_all] at c3
  dsimp only at c3
  have C3:Hid _:=c3
  have C4:Hid _:=fun b w h=>Err_any b ⟨#[]⟩ 0 w h
  have C5:Hid _:=fun w=>Sum_I l w (by omega)
  clear c1 c3 hs h4 hl
  by_cases he:sumI l=k
  ·rw[if_pos he]
   have ht:(sumI l !=(k:Int))=false:=by rw[he];simp
   clear he
   go_enter Tryz.func123,Tryz.ntmps123
   go_wp2_with (first |(go_at_call 62;refine(Read_any _ _).mono ?_;rintro e w1 ⟨rfl,h1,b1⟩) |(go_at_call 63;refine(C1.out _ _ h1).mono ?_;rintro e w2 ⟨rfl,h2,o2⟩) |(go_at_call 95;refine(C2.out _ _ h2).mono ?_;rintro e w3 ⟨rfl,rfl⟩) |(go_at_call 65;refine(C3.out _ _ h2).mono ?_;rintro e w4 ⟨rfl,h4,o4⟩) |(go_at_call 96;refine(C4.out _ _ h4).mono ?_;rintro e w5 ⟨rfl,rfl⟩) |(go_at_call 132;refine(C5.out _).mono ?_;rintro e w6 ⟨rfl,b6⟩))
   go_ret2
   have b4:=b1.trans ((o2.trans o4).below (Nat.le_refl _) b1.size)
   exact⟨rfl,b4.trans (b6.mono b4.size)⟩
  ·rw[if_neg he]
   have ht:(sumI l !=(k:Int))=true:=by simpa using he
   clear he
   go_enter Tryz.func123,Tryz.ntmps123
   go_wp2_with (first |(go_at_call 62;refine(Read_any _ _).mono ?_;rintro e w1 ⟨rfl,h1,b1⟩) |(go_at_call 63;refine(C1.out _ _ h1).mono ?_;rintro e w2 ⟨rfl,h2,o2⟩) |(go_at_call 95;refine(C2.out _ _ h2).mono ?_;rintro e w3 ⟨rfl,rfl⟩) |(go_at_call 65;refine(C3.out _ _ h2).mono ?_;rintro e w4 ⟨rfl,h4,o4⟩) |(go_at_call 96;refine(C4.out _ _ h4).mono ?_;rintro e w5 ⟨rfl,rfl⟩) |(go_at_call 132;refine(C5.out _).mono ?_;rintro e w6 ⟨rfl,b6⟩))
   go_ret2
   have b4:=b1.trans ((o2.trans o4).below (Nat.le_refl _) b1.size)
   exact⟨rfl,b4.trans (b6.mono b4.size)⟩
theorem open_seal (s:ByteArray):openV (beS (sumI s).toNat 4++s)=(s,0):=by
 have hz:=beS_size (sumI s).toNat 4
 have h0:=sumI_nonneg s
 have h1:=sumI_lt s
 have e1:=extract_left (beS (sumI s).toNat 4) s
 have e2:=extract_right (beS (sumI s).toNat 4) s
 have e3:(beS (sumI s).toNat 4).data.toList=be (sumI s).toNat 4:=by simp[beS]
 have e4:=beN_be 4 (sumI s).toNat (by omega)
 rw[hz] at e1 e2
 unfold openV
 rw[if_neg (by rw[ByteArray.size_append,hz];omega),e1,e2,e3,e4,if_pos (by omega)]
end Go.Proofs.YtdchjncnjgelhaaGreat.Sm
namespace Go.Proofs.YtdchjncnjgelhaaGreat
open Go.RowKit
structure NewW (w w':World) (b:Nat):Prop where
 wS:WrS w' b (⟨#[]⟩,0) 0
 below:Below w.heap.size w w'
 eq:b=w.heap.size
theorem zero_wr (w:World):(zeroValue 242).run Tryz.prog w=.ok (.agg #[.pointer none,.int .i64 0,.int .i64 0]) w:=by kernel_rfl
theorem wpList_new_wr {ops:Array Oper} {rest:List Oper} {o:Oper} {a:Act} {Q:Exit->Act->World->Prop} (w:World) (hg:o.guard=none) (hop:o.op=Op.alloc 242)
  (h:∀ w' b,NewW w w' b->wpList Tryz.prog ops Q rest (a.put o.dst (.pointer (some ⟨b,0,none⟩))) w'):wpList Tryz.prog ops Q (o ::rest) a w:=by
 refine wpList_plain hg fun K' hK'=>?_
 unfold Oper.wp
 simp[execOp,hop,Instr.alloc,zero_wr,Result.andThen,Value.cells]
 exact hK' _ _ (h _ _ ⟨⟨⟨none,[],(MapKept.heap_alloc w _).1,rfl,rfl⟩,Nat.le_refl _⟩,(Below.refl _ _).alloc (Nat.le_refl _) _,rfl⟩)
theorem All_both (b:Nat) (all:ByteArray) (e:Int) (w:World) (h:Pk.WrIs w b all e) (hsz:all.size<=140737488351232) (he:e≠0->all=⟨#[]⟩) :
  Calls Tryz.prog 164 #[.pointer (some ⟨b,0,none⟩)] w fun r w'=>r=.returned (.tuple #[.string all,.int .i64 e])/\Below w.heap.size w w':=by
 by_cases h0:e=0
 ·subst h0;exact Pk.All_any b all w h hsz
 ·rw[he h0];exact Pk.All_err b all e w h h0
section
variable {w wr:World}{b0 b j:Nat}{s:Sc}{I T:Value}{A:ByteArray × Int}
theorem LdS.start {w0 w1:World} {b1:Nat} (N0:NewR w w0 b0 s I T) (N1:NewW w0 w1 b1):LdS w w1 b0 b1 s I T (⟨#[]⟩,0) 0 :=
 ⟨N0.rc.below N1.below,N1.wS,by have:=N0.rc.lt;have:=N1.eq;omega,Pk.Off.of_below (thn N0.below N1.below)⟩
theorem LdS.places2 (h:LdS w wr b0 b s I T A j) (hj:j<=100000000000) (p q:Int):Calls Tryz.prog 161 #[.pointer (some ⟨b,0,none⟩),.slice (some ⟨wr.heap.size,0,none⟩) 2 2] (wr.alloc (.cells #[.int .i64 p,.int .i64 q] 3)) fun r w'=>r=.returned (.tuple #[])/\LdS w w' b0 b s I T (layP [p,q] A) (j+12):=by
 have hb:Below wr.heap.size wr (wr.alloc (.cells #[.int .i64 p,.int .i64 q] 3)):=(Below.refl _ _).alloc (Nat.le_refl _) _
 have hl:=h.wS.lt
 refine(layPlaces_any (n:=2) (h.wS.below hb) (by omega) [p,q] (MapKept.heap_alloc wr _).1 (by omega) rfl (by omega)).mono ?_
 rintro e w' ⟨he,h1,o1⟩
 exact⟨he,h.step h1 ((Pk.Off.of_below hb).trans o1)⟩
theorem LdS.places3 (h:LdS w wr b0 b s I T A j) (hj:j<=100000000000) (p q x:Int):Calls Tryz.prog 161 #[.pointer (some ⟨b,0,none⟩),.slice (some ⟨wr.heap.size,0,none⟩) 3 3] (wr.alloc (.cells #[.int .i64 p,.int .i64 q,.int .i64 x] 3)) fun r w'=>r=.returned (.tuple #[])/\LdS w w' b0 b s I T (layP [p,q,x] A) (j+18):=by
 have hb:Below wr.heap.size wr (wr.alloc (.cells #[.int .i64 p,.int .i64 q,.int .i64 x] 3)):=(Below.refl _ _).alloc (Nat.le_refl _) _
 have hl:=h.wS.lt
 refine(layPlaces_any (n:=3) (h.wS.below hb) (by omega) [p,q,x] (MapKept.heap_alloc wr _).1 (by omega) rfl (by omega)).mono ?_
 rintro e w' ⟨he,h1,o1⟩
 exact⟨he,h.step h1 ((Pk.Off.of_below hb).trans o1)⟩
theorem LdS.change (h:LdS w wr b0 b s I T A j) (hj:j<=100000000000) (hk:s.ky.size<=1000) (ho:s.ol.size<=1000) (hw:s.nw.size<=1000):Calls Tryz.prog 162 #[.pointer (some ⟨b,0,none⟩),.agg (s.A I T)] wr fun r w'=>r=.returned (.tuple #[])/\LdS w w' b0 b s I T (layC s A) (j+300000) :=
 (layChange_any h.wS hj hk ho hw).mono fun e w' ⟨he,h1,o1⟩=>⟨he,h.step h1 o1⟩
theorem LdS.images {a:Option Addr} {c:Nat} {l:List Im} (h:LdS w wr b0 b s I T A j) (hj:j<=10000000000) (hA:Bare A) (hn:l.length<=10000000000000) (hcs:Cs w a (encI l)) (hb:w.heap.size<=b) (ht:∀ p∈l,p.2.size<=1000):Calls Tryz.prog 160 #[.pointer (some ⟨b,0,none⟩),.slice a l.length c] wr fun r w'=>r=.returned (.tuple #[])/\LdS w w' b0 b s I T (layI l (stepW A l.length 1)) (j+70000000):=by
 have hne:l≠[]->∀ b'' off',a=some ⟨b'',off',none⟩->b''≠b:=by
  intro hl b'' off' e
  obtain⟨b',off,e',hlt,_⟩:=hcs.at_ 0 (by rw[encI_length];exact List.length_pos_iff.2 hl)
  rw[e'] at e
  cases e
  omega
 have hcs':Cs wr a (encI l):=by
  by_cases hl:l=[]
  ·subst hl;exact Cs.nil _ _
  ·exact hcs.off h.off (hne hl)
 refine(layImages_any h.wS hj hA l rfl hn hcs' hne ht).mono ?_
 rintro e w' ⟨he,h1,o1⟩
 exact⟨he,h.step h1 o1⟩
theorem LdS.table {a:Option Addr} {c:Nat} {l:List Tb} (h:LdS w wr b0 b s I T A j) (hj:j<=10000000000) (hA:Bare A) (hn:l.length<=10000000000000) (hcs:Cs w a (encT l)) (hb:w.heap.size<=b):Calls Tryz.prog 163 #[.pointer (some ⟨b,0,none⟩),.slice a l.length c] wr fun r w'=>r=.returned (.tuple #[])/\LdS w w' b0 b s I T (layB l (stepW A l.length 1)) (j+70000000):=by
 have hne:l≠[]->∀ b'' off',a=some ⟨b'',off',none⟩->b''≠b:=by
  intro hl b'' off' e
  obtain⟨b',off,e',hlt,_⟩:=hcs.at_ 0 (by rw[encT_length];exact List.length_pos_iff.2 hl)
  rw[e'] at e
  cases e
  omega
 have hcs':Cs wr a (encT l):=by
  by_cases hl:l=[]
  ·subst hl;exact Cs.nil _ _
  ·exact hcs.off h.off (hne hl)
 refine(layTable_any h.wS hj hA l rfl hn hcs' hne).mono ?_
 rintro e w' ⟨he,h1,o1⟩
 exact⟨he,h.step h1 o1⟩
theorem LdS.all (h:LdS w wr b0 b s I T A j) (hj:j<=100000000000) (hb:w.heap.size<=b) (hB:Bare A):Calls Tryz.prog 164 #[.pointer (some ⟨b,0,none⟩)] wr fun r w'=>r=.returned (.tuple #[.string A.1,.int .i64 A.2])/\Below w.heap.size w w':=by
 have hz:=h.wS.sz
 have hl:=h.off.below hb (Nat.le_refl _)
 exact(All_both b A.1 A.2 wr h.wS.wr (by omega) hB).mono fun e w' ⟨he,h1⟩=>⟨he,thn hl h1⟩
end
section
variable {w:World}{s:Sc}{I T:Value}
set_option maxHeartbeats 1000000 in
theorem laid_1 (hk:s.kd=1) {a:Option Addr} {c:Nat} {l:List Im} (hn:l.length<=10000000000000) (hcs:Cs w a (encI l)) (ht:∀ p∈l,p.2.size<=1000):Calls Tryz.prog 129 #[.agg (s.A (.slice a l.length c) T)] w fun r w'=>r=.returned (.tuple #[.string (layI l (stepW (stepW (⟨#[]⟩,0) s.kd 1) l.length 1)).1,.int .i64 (layI l (stepW (stepW (⟨#[]⟩,0) s.kd 1) l.length 1)).2])/\Below w.heap.size w w':=by
 have e1:(s.kd==1)=true:=by rw[hk];rfl
 clear hk
 go_enter Tryz.func129,Tryz.ntmps129
 go_wp2_with (first
  | (refine wpList_box_rc (s:=s) (I:=_) (T:=_) _ rfl _ rfl rfl ?_;intro w0 b0 N0)
  | (refine wpList_new_wr _ rfl rfl ?_;intro w1 b1 N1;have H:=LdS.start N0 N1;have hb1:w.heap.size<=b1:=(Nat.le_trans N0.below.size (Nat.le_of_eq N1.eq.symm));clear N0 N1;have k0:=H.rc.c0;have k9:=H.rc.c9)
  | (go_at_call 159;refine(H.num (by omega) _ _).mono ?_;clear H;rintro e w3 ⟨rfl,H⟩;have k0:=H.rc.c0;have k9:=H.rc.c9)
  | (go_at_call 160;refine(H.images (by omega) (bare0.stepW _ _) hn hcs hb1 ht).mono ?_;clear H;rintro e w3 ⟨rfl,H⟩)
  | (go_at_call 164;refine(H.all (by omega) hb1 (((bare0.stepW _ _).stepW _ _).layI _)).mono ?_;rintro e w9 ⟨rfl,b9⟩))
 go_ret2
 exact⟨rfl,b9⟩
set_option maxHeartbeats 1000000 in
theorem laid_2 (hk:s.kd=2) {a:Option Addr} {c:Nat} {l:List Im} (hn:l.length<=10000000000000) (hcs:Cs w a (encI l)) (ht:∀ p∈l,p.2.size<=1000):Calls Tryz.prog 129 #[.agg (s.A (.slice a l.length c) T)] w fun r w'=>r=.returned (.tuple #[.string (layI l (stepW (stepW (⟨#[]⟩,0) s.kd 1) l.length 1)).1,.int .i64 (layI l (stepW (stepW (⟨#[]⟩,0) s.kd 1) l.length 1)).2])/\Below w.heap.size w w':=by
 have e1:(s.kd==1)=false:=by rw[hk];rfl
 have e2:(s.kd==2)=true:=by rw[hk];rfl
 clear hk
 go_enter Tryz.func129,Tryz.ntmps129
 go_wp2_with (first
  | (refine wpList_box_rc (s:=s) (I:=_) (T:=_) _ rfl _ rfl rfl ?_;intro w0 b0 N0)
  | (refine wpList_new_wr _ rfl rfl ?_;intro w1 b1 N1;have H:=LdS.start N0 N1;have hb1:w.heap.size<=b1:=(Nat.le_trans N0.below.size (Nat.le_of_eq N1.eq.symm));clear N0 N1;have k0:=H.rc.c0;have k9:=H.rc.c9)
  | (go_at_call 159;refine(H.num (by omega) _ _).mono ?_;clear H;rintro e w3 ⟨rfl,H⟩;have k0:=H.rc.c0;have k9:=H.rc.c9)
  | (go_at_call 160;refine(H.images (by omega) (bare0.stepW _ _) hn hcs hb1 ht).mono ?_;clear H;rintro e w3 ⟨rfl,H⟩)
  | (go_at_call 164;refine(H.all (by omega) hb1 (((bare0.stepW _ _).stepW _ _).layI _)).mono ?_;rintro e w9 ⟨rfl,b9⟩))
 go_ret2
 exact⟨rfl,b9⟩
set_option maxHeartbeats 1000000 in
theorem laid_3 (hk:s.kd=3) (hy:s.ky.size<=1000) (ho:s.ol.size<=1000) (hw:s.nw.size<=1000):Calls Tryz.prog 129 #[.agg (s.A I T)] w fun r w'=>r=.returned (.tuple #[.string (layC s (layP [s.tx,s.pv] (stepW (⟨#[]⟩,0) s.kd 1))).1,.int .i64 (layC s (layP [s.tx,s.pv] (stepW (⟨#[]⟩,0) s.kd 1))).2])/\Below w.heap.size w w':=by
 have e1:(s.kd==1)=false:=by rw[hk];rfl
 have e2:(s.kd==2)=false:=by rw[hk];rfl
 have e3:(s.kd==3)=true:=by rw[hk];rfl
 clear hk
 go_enter Tryz.func129,Tryz.ntmps129
 go_wp2_with (first
  | (refine wpList_box_rc (s:=s) (I:=_) (T:=_) _ rfl _ rfl rfl ?_;intro w0 b0 N0)
  | (refine wpList_new_wr _ rfl rfl ?_;intro w1 b1 N1;have H:=LdS.start N0 N1;have hb1:w.heap.size<=b1:=(Nat.le_trans N0.below.size (Nat.le_of_eq N1.eq.symm));clear N0 N1;have k0:=H.rc.c0;have k1:=H.rc.c1;have k2:=H.rc.c2)
  | (go_at_call 159;refine(H.num (by omega) _ _).mono ?_;clear H;rintro e w3 ⟨rfl,H⟩;have k0:=H.rc.c0;have k1:=H.rc.c1;have k2:=H.rc.c2)
  | (go_at_call 161;refine(H.places2 (by omega) _ _).mono ?_;clear H;rintro e w3 ⟨rfl,H⟩;have k0:=H.rc.c0;have k1:=H.rc.c1;have k2:=H.rc.c2)
  | (refine wpList_load_rc _ rfl _ rfl rfl H.rc ?_)
  | (go_at_call 162;refine(H.change (by omega) hy ho hw).mono ?_;clear H;rintro e w3 ⟨rfl,H⟩)
  | (go_at_call 164;refine(H.all (by omega) hb1 (((bare0.stepW _ _).layP _).layC _)).mono ?_;rintro e w9 ⟨rfl,b9⟩))
 go_ret2
 exact⟨rfl,b9⟩
set_option maxHeartbeats 1000000 in
theorem laid_4 (hk:s.kd=4) (hy:s.ky.size<=1000) (ho:s.ol.size<=1000) (hw:s.nw.size<=1000):Calls Tryz.prog 129 #[.agg (s.A I T)] w fun r w'=>r=.returned (.tuple #[.string (layC s (layP [s.tx,s.pv] (stepW (⟨#[]⟩,0) s.kd 1))).1,.int .i64 (layC s (layP [s.tx,s.pv] (stepW (⟨#[]⟩,0) s.kd 1))).2])/\Below w.heap.size w w':=by
 have e1:(s.kd==1)=false:=by rw[hk];rfl
 have e2:(s.kd==2)=false:=by rw[hk];rfl
 have e3:(s.kd==3)=false:=by rw[hk];rfl
 have e4:(s.kd==4)=true:=by rw[hk];rfl
 clear hk
 go_enter Tryz.func129,Tryz.ntmps129
 go_wp2_with (first
  | (refine wpList_box_rc (s:=s) (I:=_) (T:=_) _ rfl _ rfl rfl ?_;intro w0 b0 N0)
  | (refine wpList_new_wr _ rfl rfl ?_;intro w1 b1 N1;have H:=LdS.start N0 N1;have hb1:w.heap.size<=b1:=(Nat.le_trans N0.below.size (Nat.le_of_eq N1.eq.symm));clear N0 N1;have k0:=H.rc.c0;have k1:=H.rc.c1;have k2:=H.rc.c2)
  | (go_at_call 159;refine(H.num (by omega) _ _).mono ?_;clear H;rintro e w3 ⟨rfl,H⟩;have k0:=H.rc.c0;have k1:=H.rc.c1;have k2:=H.rc.c2)
  | (go_at_call 161;refine(H.places2 (by omega) _ _).mono ?_;clear H;rintro e w3 ⟨rfl,H⟩;have k0:=H.rc.c0;have k1:=H.rc.c1;have k2:=H.rc.c2)
  | (refine wpList_load_rc _ rfl _ rfl rfl H.rc ?_)
  | (go_at_call 162;refine(H.change (by omega) hy ho hw).mono ?_;clear H;rintro e w3 ⟨rfl,H⟩)
  | (go_at_call 164;refine(H.all (by omega) hb1 (((bare0.stepW _ _).layP _).layC _)).mono ?_;rintro e w9 ⟨rfl,b9⟩))
 go_ret2
 exact⟨rfl,b9⟩
set_option maxHeartbeats 1000000 in
theorem laid_5 (hk:s.kd=5) (hy:s.ky.size<=1000) (ho:s.ol.size<=1000) (hw:s.nw.size<=1000):Calls Tryz.prog 129 #[.agg (s.A I T)] w fun r w'=>r=.returned (.tuple #[.string (layC s (layP [s.tx,s.pv] (stepW (⟨#[]⟩,0) s.kd 1))).1,.int .i64 (layC s (layP [s.tx,s.pv] (stepW (⟨#[]⟩,0) s.kd 1))).2])/\Below w.heap.size w w':=by
 have e1:(s.kd==1)=false:=by rw[hk];rfl
 have e2:(s.kd==2)=false:=by rw[hk];rfl
 have e3:(s.kd==3)=false:=by rw[hk];rfl
 have e4:(s.kd==4)=false:=by rw[hk];rfl
 have e5:(s.kd==5)=true:=by rw[hk];rfl
 clear hk
 go_enter Tryz.func129,Tryz.ntmps129
 go_wp2_with (first
  | (refine wpList_box_rc (s:=s) (I:=_) (T:=_) _ rfl _ rfl rfl ?_;intro w0 b0 N0)
  | (refine wpList_new_wr _ rfl rfl ?_;intro w1 b1 N1;have H:=LdS.start N0 N1;have hb1:w.heap.size<=b1:=(Nat.le_trans N0.below.size (Nat.le_of_eq N1.eq.symm));clear N0 N1;have k0:=H.rc.c0;have k1:=H.rc.c1;have k2:=H.rc.c2)
  | (go_at_call 159;refine(H.num (by omega) _ _).mono ?_;clear H;rintro e w3 ⟨rfl,H⟩;have k0:=H.rc.c0;have k1:=H.rc.c1;have k2:=H.rc.c2)
  | (go_at_call 161;refine(H.places2 (by omega) _ _).mono ?_;clear H;rintro e w3 ⟨rfl,H⟩;have k0:=H.rc.c0;have k1:=H.rc.c1;have k2:=H.rc.c2)
  | (refine wpList_load_rc _ rfl _ rfl rfl H.rc ?_)
  | (go_at_call 162;refine(H.change (by omega) hy ho hw).mono ?_;clear H;rintro e w3 ⟨rfl,H⟩)
  | (go_at_call 164;refine(H.all (by omega) hb1 (((bare0.stepW _ _).layP _).layC _)).mono ?_;rintro e w9 ⟨rfl,b9⟩))
 go_ret2
 exact⟨rfl,b9⟩
set_option maxHeartbeats 1000000 in
theorem laid_6 (hk:s.kd=6) (hy:s.ky.size<=1000) (ho:s.ol.size<=1000) (hw:s.nw.size<=1000):Calls Tryz.prog 129 #[.agg (s.A I T)] w fun r w'=>r=.returned (.tuple #[.string (layC s (stepW (layP [s.tx,s.pv,s.nx] (stepW (⟨#[]⟩,0) s.kd 1)) s.ac 1)).1,.int .i64 (layC s (stepW (layP [s.tx,s.pv,s.nx] (stepW (⟨#[]⟩,0) s.kd 1)) s.ac 1)).2])/\Below w.heap.size w w':=by
 have e1:(s.kd==1)=false:=by rw[hk];rfl
 have e2:(s.kd==2)=false:=by rw[hk];rfl
 have e3:(s.kd==3)=false:=by rw[hk];rfl
 have e4:(s.kd==4)=false:=by rw[hk];rfl
 have e5:(s.kd==5)=false:=by rw[hk];rfl
 have e6:(s.kd==6)=true:=by rw[hk];rfl
 clear hk
 go_enter Tryz.func129,Tryz.ntmps129
 go_wp2_with (first
  | (refine wpList_box_rc (s:=s) (I:=_) (T:=_) _ rfl _ rfl rfl ?_;intro w0 b0 N0)
  | (refine wpList_new_wr _ rfl rfl ?_;intro w1 b1 N1;have H:=LdS.start N0 N1;have hb1:w.heap.size<=b1:=(Nat.le_trans N0.below.size (Nat.le_of_eq N1.eq.symm));clear N0 N1;have k0:=H.rc.c0;have k1:=H.rc.c1;have k2:=H.rc.c2;have k8:=H.rc.c8;have k4:=H.rc.c4)
  | (go_at_call 159;refine(H.num (by omega) _ _).mono ?_;clear H;rintro e w3 ⟨rfl,H⟩;have k0:=H.rc.c0;have k1:=H.rc.c1;have k2:=H.rc.c2;have k8:=H.rc.c8;have k4:=H.rc.c4)
  | (go_at_call 161;refine(H.places3 (by omega) _ _ _).mono ?_;clear H;rintro e w3 ⟨rfl,H⟩;have k0:=H.rc.c0;have k1:=H.rc.c1;have k2:=H.rc.c2;have k8:=H.rc.c8;have k4:=H.rc.c4)
  | (refine wpList_load_rc _ rfl _ rfl rfl H.rc ?_)
  | (go_at_call 162;refine(H.change (by omega) hy ho hw).mono ?_;clear H;rintro e w3 ⟨rfl,H⟩)
  | (go_at_call 164;refine(H.all (by omega) hb1 ((((bare0.stepW _ _).layP _).stepW _ _).layC _)).mono ?_;rintro e w9 ⟨rfl,b9⟩))
 go_ret2
 exact⟨rfl,b9⟩
set_option maxHeartbeats 1000000 in
theorem laid_7 (hk:s.kd=7) :Calls Tryz.prog 129 #[.agg (s.A I T)] w fun r w'=>r=.returned (.tuple #[.string (layP [s.tx,s.pv] (stepW (⟨#[]⟩,0) s.kd 1)).1,.int .i64 (layP [s.tx,s.pv] (stepW (⟨#[]⟩,0) s.kd 1)).2])/\Below w.heap.size w w':=by
 have e1:(s.kd==1)=false:=by rw[hk];rfl
 have e2:(s.kd==2)=false:=by rw[hk];rfl
 have e3:(s.kd==3)=false:=by rw[hk];rfl
 have e4:(s.kd==4)=false:=by rw[hk];rfl
 have e5:(s.kd==5)=false:=by rw[hk];rfl
 have e6:(s.kd==6)=false:=by rw[hk];rfl
 have e7:(s.kd==7)=true:=by rw[hk];rfl
 clear hk
 go_enter Tryz.func129,Tryz.ntmps129
 go_wp2_with (first
  | (refine wpList_box_rc (s:=s) (I:=_) (T:=_) _ rfl _ rfl rfl ?_;intro w0 b0 N0)
  | (refine wpList_new_wr _ rfl rfl ?_;intro w1 b1 N1;have H:=LdS.start N0 N1;have hb1:w.heap.size<=b1:=(Nat.le_trans N0.below.size (Nat.le_of_eq N1.eq.symm));clear N0 N1;have k0:=H.rc.c0;have k1:=H.rc.c1;have k2:=H.rc.c2)
  | (go_at_call 159;refine(H.num (by omega) _ _).mono ?_;clear H;rintro e w3 ⟨rfl,H⟩;have k0:=H.rc.c0;have k1:=H.rc.c1;have k2:=H.rc.c2)
  | (go_at_call 161;refine(H.places2 (by omega) _ _).mono ?_;clear H;rintro e w3 ⟨rfl,H⟩;have k0:=H.rc.c0;have k1:=H.rc.c1;have k2:=H.rc.c2)
  | (go_at_call 164;refine(H.all (by omega) hb1 ((bare0.stepW _ _).layP _)).mono ?_;rintro e w9 ⟨rfl,b9⟩))
 go_ret2
 exact⟨rfl,b9⟩
set_option maxHeartbeats 1000000 in
theorem laid_8 (hk:s.kd=8) :Calls Tryz.prog 129 #[.agg (s.A I T)] w fun r w'=>r=.returned (.tuple #[.string (layP [s.tx,s.pv] (stepW (⟨#[]⟩,0) s.kd 1)).1,.int .i64 (layP [s.tx,s.pv] (stepW (⟨#[]⟩,0) s.kd 1)).2])/\Below w.heap.size w w':=by
 have e1:(s.kd==1)=false:=by rw[hk];rfl
 have e2:(s.kd==2)=false:=by rw[hk];rfl
 have e3:(s.kd==3)=false:=by rw[hk];rfl
 have e4:(s.kd==4)=false:=by rw[hk];rfl
 have e5:(s.kd==5)=false:=by rw[hk];rfl
 have e6:(s.kd==6)=false:=by rw[hk];rfl
 have e7:(s.kd==7)=false:=by rw[hk];rfl
 have e8:(s.kd==8)=true:=by rw[hk];rfl
 clear hk
 go_enter Tryz.func129,Tryz.ntmps129
 go_wp2_with (first
  | (refine wpList_box_rc (s:=s) (I:=_) (T:=_) _ rfl _ rfl rfl ?_;intro w0 b0 N0)
  | (refine wpList_new_wr _ rfl rfl ?_;intro w1 b1 N1;have H:=LdS.start N0 N1;have hb1:w.heap.size<=b1:=(Nat.le_trans N0.below.size (Nat.le_of_eq N1.eq.symm));clear N0 N1;have k0:=H.rc.c0;have k1:=H.rc.c1;have k2:=H.rc.c2)
  | (go_at_call 159;refine(H.num (by omega) _ _).mono ?_;clear H;rintro e w3 ⟨rfl,H⟩;have k0:=H.rc.c0;have k1:=H.rc.c1;have k2:=H.rc.c2)
  | (go_at_call 161;refine(H.places2 (by omega) _ _).mono ?_;clear H;rintro e w3 ⟨rfl,H⟩;have k0:=H.rc.c0;have k1:=H.rc.c1;have k2:=H.rc.c2)
  | (go_at_call 164;refine(H.all (by omega) hb1 ((bare0.stepW _ _).layP _)).mono ?_;rintro e w9 ⟨rfl,b9⟩))
 go_ret2
 exact⟨rfl,b9⟩
set_option maxHeartbeats 1000000 in
theorem laid_9 (hk:s.kd=9) {a:Option Addr} {c:Nat} {l:List Tb} (hn:l.length<=10000000000000) (hcs:Cs w a (encT l)):Calls Tryz.prog 129 #[.agg (s.A I (.slice a l.length c))] w fun r w'=>r=.returned (.tuple #[.string (layB l (stepW (stepW (⟨#[]⟩,0) s.kd 1) l.length 1)).1,.int .i64 (layB l (stepW (stepW (⟨#[]⟩,0) s.kd 1) l.length 1)).2])/\Below w.heap.size w w':=by
 have e1:(s.kd==1)=false:=by rw[hk];rfl
 have e2:(s.kd==2)=false:=by rw[hk];rfl
 have e3:(s.kd==3)=false:=by rw[hk];rfl
 have e4:(s.kd==4)=false:=by rw[hk];rfl
 have e5:(s.kd==5)=false:=by rw[hk];rfl
 have e6:(s.kd==6)=false:=by rw[hk];rfl
 have e7:(s.kd==7)=false:=by rw[hk];rfl
 have e8:(s.kd==8)=false:=by rw[hk];rfl
 have e9:(s.kd==9)=true:=by rw[hk];rfl
 clear hk
 go_enter Tryz.func129,Tryz.ntmps129
 go_wp2_with (first
  | (refine wpList_box_rc (s:=s) (I:=_) (T:=_) _ rfl _ rfl rfl ?_;intro w0 b0 N0)
  | (refine wpList_new_wr _ rfl rfl ?_;intro w1 b1 N1;have H:=LdS.start N0 N1;have hb1:w.heap.size<=b1:=(Nat.le_trans N0.below.size (Nat.le_of_eq N1.eq.symm));clear N0 N1;have k0:=H.rc.c0;have k10:=H.rc.c10)
  | (go_at_call 159;refine(H.num (by omega) _ _).mono ?_;clear H;rintro e w3 ⟨rfl,H⟩;have k0:=H.rc.c0;have k10:=H.rc.c10)
  | (go_at_call 163;refine(H.table (by omega) (bare0.stepW _ _) hn hcs hb1).mono ?_;clear H;rintro e w3 ⟨rfl,H⟩)
  | (go_at_call 164;refine(H.all (by omega) hb1 (((bare0.stepW _ _).stepW _ _).layB _)).mono ?_;rintro e w9 ⟨rfl,b9⟩))
 go_ret2
 exact⟨rfl,b9⟩
set_option maxHeartbeats 1000000 in
theorem laid_10 (hk:s.kd=10) :Calls Tryz.prog 129 #[.agg (s.A I T)] w fun r w'=>r=.returned (.tuple #[.string (stepW (stepW (stepW (⟨#[]⟩,0) s.kd 1) s.ep 4) s.nd 1).1,.int .i64 (stepW (stepW (stepW (⟨#[]⟩,0) s.kd 1) s.ep 4) s.nd 1).2])/\Below w.heap.size w w':=by
 have e1:(s.kd==1)=false:=by rw[hk];rfl
 have e2:(s.kd==2)=false:=by rw[hk];rfl
 have e3:(s.kd==3)=false:=by rw[hk];rfl
 have e4:(s.kd==4)=false:=by rw[hk];rfl
 have e5:(s.kd==5)=false:=by rw[hk];rfl
 have e6:(s.kd==6)=false:=by rw[hk];rfl
 have e7:(s.kd==7)=false:=by rw[hk];rfl
 have e8:(s.kd==8)=false:=by rw[hk];rfl
 have e9:(s.kd==9)=false:=by rw[hk];rfl
 have e10:(s.kd==10)=true:=by rw[hk];rfl
 clear hk
 go_enter Tryz.func129,Tryz.ntmps129
 go_wp2_with (first
  | (refine wpList_box_rc (s:=s) (I:=_) (T:=_) _ rfl _ rfl rfl ?_;intro w0 b0 N0)
  | (refine wpList_new_wr _ rfl rfl ?_;intro w1 b1 N1;have H:=LdS.start N0 N1;have hb1:w.heap.size<=b1:=(Nat.le_trans N0.below.size (Nat.le_of_eq N1.eq.symm));clear N0 N1;have k0:=H.rc.c0;have k11:=H.rc.c11;have k12:=H.rc.c12)
  | (go_at_call 159;refine(H.num (by omega) _ _).mono ?_;clear H;rintro e w3 ⟨rfl,H⟩;have k0:=H.rc.c0;have k11:=H.rc.c11;have k12:=H.rc.c12)
  | (go_at_call 164;refine(H.all (by omega) hb1 (((bare0.stepW _ _).stepW _ _).stepW _ _)).mono ?_;rintro e w9 ⟨rfl,b9⟩))
 go_ret2
 exact⟨rfl,b9⟩
end
end Go.Proofs.YtdchjncnjgelhaaGreat
