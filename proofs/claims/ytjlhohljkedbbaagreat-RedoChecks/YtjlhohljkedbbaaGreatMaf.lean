import Derived.Test.YtjlhohljkedbbaaGreatMae
import Derived.Lib.SmallJoins
import Derived.Lib.SlBytesRow
import Derived.Test.YtjlhohljkedbbaaGreatMac
import Derived.Deep.RegionHeld3
import Derived.Test.YtjlhohljkedbbaaGreatMad
set_option linter.unusedVariables false
set_option linter.unusedSimpArgs false
set_option maxRecDepth 100000
namespace Go.Proofs.YtjlhohljkedbbaaGreat.Sm
open Go.RowKit
theorem ofB_vI (b:UInt8):(b.toNat:Int)=vI (ofB b):=by
 unfold vI ofB
 have:=b.toNat_lt
 rw[BitVec.toNat_ofNat]
 omega
theorem ofB_mod (b:UInt8):(b.toNat:Int) % 4294967296=vI (ofB b):=by
 rw[← ofB_vI]
 have:=b.toNat_lt
 omega
theorem half_facts (c:R):∃ (n:Nat) (s d:R),bits .and .u32 (vI c) 15=(n:Int)/\n<16/\(tab 16)[n]?=some (.int .u32 (vI d))/\vI c / (16:Int)=vI s/\bits .xor .u32 (vI s) (vI d)=vI (stn 4 c):=by
 have e15:(15:Int)=vI 15#32:=rfl
 have hlt:(c &&& 15#32).toNat<16:=by
  rw[BitVec.toNat_and]
  have:c.toNat &&& (15#32).toNat<=15:=Nat.and_le_right
  omega
 refine⟨(c &&& 15#32).toNat,c >>> 4,stn 4 (c &&& 15#32),?_,hlt,?_,shr32_4 c,?_⟩
 ·rw[e15,and32];rfl
 ·rw[tab_get 16 _ hlt,if_pos hlt,BitVec.ofNat_toNat]
  simp
 ·rw[xor32,← four_steps]
theorem not32 (n:Int):bits .xor .u32 IntKind.u32.max (n % 4294967296)=vI (BitVec.ofInt 32 n ^^^ ones):=by
 have e1:IntKind.u32.max=vI ones:=rfl
 have e2:n % 4294967296=vI (BitVec.ofInt 32 n):=by
  unfold vI
  rw[BitVec.toNat_ofInt]
  omega
 rw[e1,e2,xor32,BitVec.xor_comm]
theorem not32_vI (c:R):bits .xor .u32 IntKind.u32.max (vI c)=vI (c ^^^ ones):=by
 have e1:IntKind.u32.max=vI ones:=rfl
 rw[e1,xor32,BitVec.xor_comm]
theorem take_snoc (s:ByteArray) (k:Nat) (h:k<s.size):s.data.toList.take (k+1)=s.data.toList.take k++[s[k]]:=by
 rw[List.take_succ_eq_append_getElem (by simpa using h)];rfl
theorem bytesRow_cell (w:World) (s:ByteArray) (c m:Nat) (k:Nat) (h:k<s.size) :
  (w.alloc (.cells (bytesRow s c) 5 (m,m+1))).cell? ⟨w.heap.size,k,none⟩=some (.int .u8 (s[k].toNat:Int)):=by
 rw[World.cell?_alloc_mark]
 have h':k<s.data.size:=h
 simp only[bytesRow]
 rw[Array.getElem?_append_left (by simpa using h')]
 rw[Array.getElem?_map,Array.getElem?_eq_getElem h']
 rfl
theorem runB_snoc (c:R) (l:List UInt8) (b:UInt8):runB c (l++[b])=stn 4 (stn 4 (runB c l ^^^ ofB b)):=by
 rw[runB_append,← stn_add]
 rfl
theorem More_any (n:Int) (s:ByteArray) (w:World) (hs:s.size<=281474976710656) :
  Calls Tryz.prog 139 #[.int .i64 n,.string s] w fun e w'=>e=.returned (.int .i64 (vI (moreB (BitVec.ofInt 32 n) s.data.toList)))/\Below w.heap.size w w':=by
 have hcv:=fun w s=>run_bytes_of_string (P:=Tryz.prog) w 9 76 5 s Tryz.underlying9 Tryz.underlying76 Tryz.underlying5
 obtain⟨C,hC⟩:∃ C,BitVec.ofInt 32 n ^^^ ones=C:=⟨_,rfl⟩
 have h0:=not32 n
 have hm:moreB (BitVec.ofInt 32 n) s.data.toList=runB C s.data.toList ^^^ ones:=by rw[moreB,hC]
 rw[hC] at h0
 rw[hm]
 clear hm hC
 go_enter Tryz.func139,Tryz.ntmps139
 go_wp2_with (go_at_call 164;refine(fourShifts_lit _).mono ?_;rintro e w1 ⟨rfl,hb1⟩)
 rw[← tab_full]
 generalize grownCap (w1.alloc (Obj.cells (tab 16) 231)) s.size 0 5=gc
 have hrow:∀ j (hj:j<s.size),((w1.alloc (Obj.cells (tab 16) 231)).alloc (Obj.cells (bytesRow s gc) 5 ((bytesRow s gc).size,(bytesRow s gc).size+1))).drew.cell? ⟨w1.heap.size+1,j,none⟩=some (.int .u8 (s[j].toNat:Int)):=by
  intro j hj
  have:=bytesRow_cell (w1.alloc (Obj.cells (tab 16) 231)) s gc (bytesRow s gc).size j hj
  simpa[go_sem] using this
 have htab:∀ j,((w1.alloc (Obj.cells (tab 16) 231)).alloc (Obj.cells (bytesRow s gc) 5 ((bytesRow s gc).size,(bytesRow s gc).size+1))).drew.cell? ⟨w1.heap.size,j,none⟩=(tab 16)[j]?:=by
  intro j
  simp[go_sem]
 have hbel:Below w.heap.size w ((w1.alloc (Obj.cells (tab 16) 231)).alloc (Obj.cells (bytesRow s gc) 5 ((bytesRow s gc).size,(bytesRow s gc).size+1))).drew :=
  ((hb1.alloc hb1.size _).alloc (by have:=hb1.size;simp;omega) _).drew
 generalize ((w1.alloc (Obj.cells (tab 16) 231)).alloc (Obj.cells (bytesRow s gc) 5 ((bytesRow s gc).size,(bytesRow s gc).size+1))).drew=W at hrow htab hbel ⊢
 have HR:Hid _:=hrow
 have HT:Hid _:=htab
 have HB:Hid _:=hbel
 clear hrow htab hbel hcv
 go_loop [6,16] (fun r i=>∃ j:Nat,j<=s.size/\i=.int .i64 j/\r=.int .u32 (vI (runB C (s.data.toList.take j)))) (fun _ i=>s.size-(intOf i).toNat)
 case atStart=>exact⟨0,Nat.zero_le _,rfl,rfl⟩
 case round =>
  obtain⟨j,hj,rfl,rfl⟩:=hrel
  by_cases hlt:j<s.size
  ·have hc:=HR.out j hlt
   have HS:Hid _:=runB_snoc C (s.data.toList.take j) s[j]
   have HS2:Hid _:=take_snoc s j hlt
   have e1:=xor32 (runB C (s.data.toList.take j)) (ofB s[j])
   rw[← ofB_mod] at e1
   generalize runB C (s.data.toList.take j)=c0 at *
   generalize c0 ^^^ ofB s[j]=c1 at *
   obtain⟨n1,s1,d1,f1,g1,t1,k1,x1⟩:=half_facts c1
   have T1:=HT.out n1
   rw[t1] at T1
   generalize stn 4 c1=c2 at *
   obtain⟨n2,s2,d2,f2,g2,t2,k2,x2⟩:=half_facts c2
   have T2:=HT.out n2
   rw[t2] at T2
   generalize stn 4 c2=c3 at *
   clear t1 t2
   go_wp2
   go_round
   case rel=>exact⟨j+1,by omega,by go_num,by rw[HS2.out,HS.out]⟩
   case measure=>simp[intOf];omega
  ·have hn:=not32_vI (runB C (s.data.toList.take j))
   have hw:=wrap64_vI (runB C (s.data.toList.take j) ^^^ ones)
   rw[List.take_of_length_le (by simp;omega)] at *
   go_wp2
   go_ret
   exact⟨rfl,HB.out⟩
theorem Sum_any (s:ByteArray) (w:World) (hs:s.size<=281474976710656) :
  Calls Tryz.prog 106 #[.string s] w fun e w'=>e=.returned (.int .i64 (vI (sumB s.data.toList)))/\Below w.heap.size w w':=by
 have C1:Hid (∀ w,Calls Tryz.prog 139 #[.int .i64 0,.string s] w fun e w'=>e=.returned (.int .i64 (vI (sumB s.data.toList)))/\Below w.heap.size w w'):=by
  intro w
  have:=More_any 0 s w hs
  rw[show BitVec.ofInt 32 0=0#32 from rfl,more_zero] at this
  exact this
 clear hs
 go_enter Tryz.func106,Tryz.ntmps106
 go_wp2_with (go_at_call 139;refine(C1.out _).mono ?_;rintro e w1 ⟨rfl,hb1⟩)
 go_ret
 exact⟨rfl,hb1⟩
open Go.RowKit Go.Proofs.YtjlhohljkedbbaaGreat.Pk
def sumI (s:ByteArray):Int:=vI (sumB s.data.toList)
theorem Sum_I (s:ByteArray) (w:World) (hs:s.size<=281474976710656) :
  Calls Tryz.prog 106 #[.string s] w fun e w'=>e=.returned (.int .i64 (sumI s))/\Below w.heap.size w w':=Sum_any s w hs
theorem below_dr {b:Nat} {a w:World} (h:Below b a w) (n:Nat):Below b a (w.drewN n):=⟨h.os,h.tape,h.output,h.size,h.block⟩
theorem nil_append (s:ByteArray):(⟨#[]⟩:ByteArray)++s=s:=by apply ByteArray.ext;simp[ByteArray.data_append]
theorem Put_four (n:Int) (w:World) (h0:0<=n) (hn:n<4294967296) :
  Calls Tryz.prog 80 #[.string ⟨#[]⟩,.int .i64 n,.int .i64 4] w fun e w'=>e=.returned (.tuple #[.string (beS n.toNat 4),.int .i64 0])/\Below w.heap.size w w':=by
 have hz:(beS n.toNat 4).size<=6:=by rw[beS_size];omega
 have C1:Hid (∀ w,Calls Tryz.prog 105 #[.int .i64 n,.int .i64 4] w fun e w'=>e=.returned (.string (beS n.toNat 4))/\Below w.heap.size w w'):=by
  intro w
  have h:=num_4 n.toNat w (by omega)
  rw[Int.toNat_of_nonneg h0] at h
  exact h
 go_enter Tryz.func80,Tryz.ntmps80
 go_wp2_with (first |(go_at_call 84;refine(isWidth_any _ _).mono ?_;rintro e w' ⟨rfl,rfl⟩) |(go_at_call 105;refine(C1.out _).mono ?_;rintro e w1 ⟨rfl,hb⟩))
 go_ret2
 rw[nil_append]
 exact⟨rfl,hb⟩
theorem Read_any (s:ByteArray) (w:World) :
  Calls Tryz.prog 58 #[.string s] w fun e w'=>e=.returned (.pointer (some ⟨w.heap.size,0,none⟩))/\isRd w' w.heap.size s 0/\Below w.heap.size w w':=by
 go_enter Tryz.func58,Tryz.ntmps58
 go_wp2
 go_ret
 exact⟨rfl,(MapKept.heap_alloc w _).1,(Below.refl _ _).alloc (Nat.le_refl _) _⟩
theorem sumI_nonneg (s:ByteArray):0<=sumI s:=vI_nonneg _
theorem sumI_lt (s:ByteArray):sumI s<4294967296:=vI_lt _
def sealV (s:ByteArray):ByteArray:=beS (sumI s).toNat 4++s
theorem Seal_any (s:ByteArray) (w:World) (hs:s.size<=140737488351232) :
  Calls Tryz.prog 81 #[.string s] w fun e w'=>e=.returned (.string (sealV s))/\Below w.heap.size w w':=by
 have hz:(beS (sumI s).toNat 4).size<=6:=by rw[beS_size];omega
 have C1:Hid _:=fun w=>Sum_I s w (by omega)
 have C2:Hid _:=fun w=>Put_four (sumI s) w (sumI_nonneg s) (sumI_lt s)
 have HV:Hid (sealV s=beS (sumI s).toNat 4++s):=by rfl
 generalize sumI s=n at *
 generalize sealV s=v at *
 generalize beS n.toNat 4=b at *
 go_enter Tryz.func81,Tryz.ntmps81
 go_wp2_with (first |(go_at_call 106;refine(C1.out _).mono ?_;rintro e w1 ⟨rfl,hb1⟩) |(go_at_call 80;refine(C2.out _).mono ?_;rintro e w2 ⟨rfl,hb2⟩))
 go_ret
 rw[HV.out]
 exact⟨rfl,hb1.trans (hb2.mono hb1.size)⟩
def openV (s:ByteArray):ByteArray × Int :=
 if s.size<4 then(⟨#[]⟩,2) else if sumI (s.extract 4 s.size)=beN (s.extract 0 4).data.toList then(s.extract 4 s.size,0) else(⟨#[]⟩,5)
theorem rdNum_four (s:ByteArray) (h:¬ s.size<4):rdNum s 0 4=(beN (s.extract 0 4).data.toList,s.extract 4 s.size,0):=by
 have e1:rdNumSt s 0 4=(s,0):=by unfold rdNumSt;rw[if_neg (by omega)]
 have e2:rdRaw s 0 4=(s.extract 0 4,s.extract 4 s.size,0):=rdRaw_fits (by omega) (by omega)
 unfold rdNum
 rw[e1]
 dsimp only
 rw[e2]
theorem rdNum_short (s:ByteArray) (h:s.size<4):rdNum s 0 4=(0,⟨#[]⟩,2):=by
 have e1:rdNumSt s 0 4=(s,0):=by unfold rdNumSt;rw[if_neg (by omega)]
 have e2:rdRaw s 0 4=(⟨#[]⟩,⟨#[]⟩,2):=rdRaw_short (by omega) (by omega)
 unfold rdNum
 rw[e1]
 dsimp only
 rw[e2]
 rfl
theorem rdRaw_all (l:ByteArray):rdRaw l 0 (l.size:Int)=(l,⟨#[]⟩,0):=by
 rw[rdRaw_fits (by omega) (by omega),Int.toNat_natCast]
 have e1:l.extract 0 l.size=l:=by apply ByteArray.ext;simp[ByteArray.data_extract]
 have e2:l.extract l.size l.size=⟨#[]⟩:=by apply ByteArray.ext;simp[ByteArray.data_extract]
 rw[e1,e2]
set_option maxHeartbeats 1000000 in
theorem Open_any (s:ByteArray) (w:World) (hs:s.size<=140737488351232) :
  Calls Tryz.prog 109 #[.string s] w fun e w'=>e=.returned (.tuple #[.string (openV s).1,.int .i64 (openV s).2])/\Below w.heap.size w w':=by
 unfold openV
 by_cases h4:s.size<4
 ·rw[if_pos h4]
  have c1:=fun b w h=>Num_any b s 0 4 w hs h
  rw[rdNum_short s h4] at c1
  dsimp only at c1
  have C1:Hid _:=c1
  have C2:Hid _:=fun b w h=>Left_any b ⟨#[]⟩ 2 w (Nat.zero_le _) h
  have c3:=fun b w h=>Raw_any b ⟨#[]⟩ 2 0 w (Nat.zero_le _) h
  rw[rdRaw_had (by decide)] at c3
  dsimp only at c3
  have C3:Hid _:=c3
  have C4:Hid _:=fun b w h=>Err_any b ⟨#[]⟩ 2 w h
  clear c1 c3 hs h4
  go_enter Tryz.func109,Tryz.ntmps109
  go_wp2_with (first |(go_at_call 58;refine(Read_any _ _).mono ?_;rintro e w1 ⟨rfl,h1,b1⟩) |(go_at_call 59;refine(C1.out _ _ h1).mono ?_;rintro e w2 ⟨rfl,h2,o2⟩) |(go_at_call 87;refine(C2.out _ _ h2).mono ?_;rintro e w3 ⟨rfl,rfl⟩) |(go_at_call 61;refine(C3.out _ _ h2).mono ?_;rintro e w4 ⟨rfl,h4,o4⟩) |(go_at_call 88;refine(C4.out _ _ h4).mono ?_;rintro e w5 ⟨rfl,rfl⟩))
  go_ret2
  exact⟨rfl,b1.trans ((o2.trans o4).below (Nat.le_refl _) b1.size)⟩
 ·rw[if_neg h4]
  have c1:=fun b w h=>Num_any b s 0 4 w hs h
  rw[rdNum_four s h4] at c1
  dsimp only at c1
  have hl:(s.extract 4 s.size).size<=140737488351232:=by rw[ByteArray.size_extract];omega
  generalize s.extract 4 s.size=l at *
  generalize beN (s.extract 0 4).data.toList=k at *
  have C1:Hid _:=c1
  have C2:Hid _:=fun b w h=>Left_any b l 0 w hl h
  have c3:=fun b w h=>Raw_any b l 0 l.size w hl h
  rw[rdRaw_all] at c3
  dsimp only at c3
  have C3:Hid _:=c3
  have C4:Hid _:=fun b w h=>Err_any b ⟨#[]⟩ 0 w h
  have C5:Hid _:=fun w=>Sum_I l w (by omega)
  clear c1 c3 hs h4 hl
  by_cases he:sumI l=k
  ·rw[if_pos he]
   have ht:(sumI l !=(k:Int))=false:=by rw[he];simp
   clear he
   go_enter Tryz.func109,Tryz.ntmps109
   go_wp2_with (first |(go_at_call 58;refine(Read_any _ _).mono ?_;rintro e w1 ⟨rfl,h1,b1⟩) |(go_at_call 59;refine(C1.out _ _ h1).mono ?_;rintro e w2 ⟨rfl,h2,o2⟩) |(go_at_call 87;refine(C2.out _ _ h2).mono ?_;rintro e w3 ⟨rfl,rfl⟩) |(go_at_call 61;refine(C3.out _ _ h2).mono ?_;rintro e w4 ⟨rfl,h4,o4⟩) |(go_at_call 88;refine(C4.out _ _ h4).mono ?_;rintro e w5 ⟨rfl,rfl⟩) |(go_at_call 106;refine(C5.out _).mono ?_;rintro e w6 ⟨rfl,b6⟩))
   go_ret2
   have b4:=b1.trans ((o2.trans o4).below (Nat.le_refl _) b1.size)
   exact⟨rfl,b4.trans (b6.mono b4.size)⟩
  ·rw[if_neg he]
   have ht:(sumI l !=(k:Int))=true:=by simpa using he
   clear he
   go_enter Tryz.func109,Tryz.ntmps109
   go_wp2_with (first |(go_at_call 58;refine(Read_any _ _).mono ?_;rintro e w1 ⟨rfl,h1,b1⟩) |(go_at_call 59;refine(C1.out _ _ h1).mono ?_;rintro e w2 ⟨rfl,h2,o2⟩) |(go_at_call 87;refine(C2.out _ _ h2).mono ?_;rintro e w3 ⟨rfl,rfl⟩) |(go_at_call 61;refine(C3.out _ _ h2).mono ?_;rintro e w4 ⟨rfl,h4,o4⟩) |(go_at_call 88;refine(C4.out _ _ h4).mono ?_;rintro e w5 ⟨rfl,rfl⟩) |(go_at_call 106;refine(C5.out _).mono ?_;rintro e w6 ⟨rfl,b6⟩))
   go_ret2
   have b4:=b1.trans ((o2.trans o4).below (Nat.le_refl _) b1.size)
   exact⟨rfl,b4.trans (b6.mono b4.size)⟩
theorem open_seal (s:ByteArray):openV (beS (sumI s).toNat 4++s)=(s,0):=by
 have hz:=beS_size (sumI s).toNat 4
 have h0:=sumI_nonneg s
 have h1:=sumI_lt s
 have e1:=extract_left (beS (sumI s).toNat 4) s
 have e2:=extract_right (beS (sumI s).toNat 4) s
 have e3:(beS (sumI s).toNat 4).data.toList=be (sumI s).toNat 4:=by simp[beS]
 have e4:=beN_be 4 (sumI s).toNat (by omega)
 rw[hz] at e1 e2
 unfold openV
 rw[if_neg (by rw[ByteArray.size_append,hz];omega),e1,e2,e3,e4,if_pos (by omega)]
end Go.Proofs.YtjlhohljkedbbaaGreat.Sm
namespace Go.Proofs.YtjlhohljkedbbaaGreat
open Go.RowKit
structure NewW (w w':World) (b:Nat):Prop where
 wS:WrS w' b (⟨#[]⟩,0) 0
 below:Below w.heap.size w w'
 eq:b=w.heap.size
theorem zero_wr (w:World):(zeroValue 195).run Tryz.prog w=.ok (.agg #[.pointer none,.int .i64 0,.int .i64 0]) w:=by kernel_rfl
theorem wpList_new_wr {ops:Array Oper} {rest:List Oper} {o:Oper} {a:Act} {Q:Exit->Act->World->Prop} (w:World) (hg:o.guard=none) (hop:o.op=Op.alloc 195)
  (h:∀ w' b,NewW w w' b->wpList Tryz.prog ops Q rest (a.put o.dst (.pointer (some ⟨b,0,none⟩))) w'):wpList Tryz.prog ops Q (o ::rest) a w:=by
 refine wpList_plain hg fun K' hK'=>?_
 unfold Oper.wp
 simp[execOp,hop,Instr.alloc,zero_wr,Result.andThen,Value.cells]
 exact hK' _ _ (h _ _ ⟨⟨⟨none,[],(MapKept.heap_alloc w _).1,rfl,rfl⟩,Nat.le_refl _⟩,(Below.refl _ _).alloc (Nat.le_refl _) _,rfl⟩)
theorem All_both (b:Nat) (all:ByteArray) (e:Int) (w:World) (h:Pk.WrIs w b all e) (hsz:all.size<=140737488351232) (he:e≠0->all=⟨#[]⟩) :
  Calls Tryz.prog 136 #[.pointer (some ⟨b,0,none⟩)] w fun r w'=>r=.returned (.tuple #[.string all,.int .i64 e])/\Below w.heap.size w w':=by
 by_cases h0:e=0
 ·subst h0;exact Pk.All_any b all w h hsz
 ·rw[he h0];exact Pk.All_err b all e w h h0
section
variable {w wr:World}{b0 b j:Nat}{s:Sc}{I T:Value}{A:ByteArray × Int}
theorem LdS.start {w0 w1:World} {b1:Nat} (N0:NewR w w0 b0 s I T) (N1:NewW w0 w1 b1):LdS w w1 b0 b1 s I T (⟨#[]⟩,0) 0 :=
 ⟨N0.rc.below N1.below,N1.wS,by have:=N0.rc.lt;have:=N1.eq;omega,Pk.Off.of_below (thn N0.below N1.below)⟩
theorem LdS.places2 (h:LdS w wr b0 b s I T A j) (hj:j<=100000000000) (p q:Int):Calls Tryz.prog 133 #[.pointer (some ⟨b,0,none⟩),.slice (some ⟨wr.heap.size,0,none⟩) 2 2] (wr.alloc (.cells #[.int .i64 p,.int .i64 q] 3)) fun r w'=>r=.returned (.tuple #[])/\LdS w w' b0 b s I T (layP [p,q] A) (j+12):=by
 have hb:Below wr.heap.size wr (wr.alloc (.cells #[.int .i64 p,.int .i64 q] 3)):=(Below.refl _ _).alloc (Nat.le_refl _) _
 have hl:=h.wS.lt
 refine(layPlaces_any (n:=2) (h.wS.below hb) (by omega) [p,q] (MapKept.heap_alloc wr _).1 (by omega) rfl (by omega)).mono ?_
 rintro e w' ⟨he,h1,o1⟩
 exact⟨he,h.step h1 ((Pk.Off.of_below hb).trans o1)⟩
theorem LdS.places3 (h:LdS w wr b0 b s I T A j) (hj:j<=100000000000) (p q x:Int):Calls Tryz.prog 133 #[.pointer (some ⟨b,0,none⟩),.slice (some ⟨wr.heap.size,0,none⟩) 3 3] (wr.alloc (.cells #[.int .i64 p,.int .i64 q,.int .i64 x] 3)) fun r w'=>r=.returned (.tuple #[])/\LdS w w' b0 b s I T (layP [p,q,x] A) (j+18):=by
 have hb:Below wr.heap.size wr (wr.alloc (.cells #[.int .i64 p,.int .i64 q,.int .i64 x] 3)):=(Below.refl _ _).alloc (Nat.le_refl _) _
 have hl:=h.wS.lt
 refine(layPlaces_any (n:=3) (h.wS.below hb) (by omega) [p,q,x] (MapKept.heap_alloc wr _).1 (by omega) rfl (by omega)).mono ?_
 rintro e w' ⟨he,h1,o1⟩
 exact⟨he,h.step h1 ((Pk.Off.of_below hb).trans o1)⟩
theorem LdS.change (h:LdS w wr b0 b s I T A j) (hj:j<=100000000000) (hk:s.ky.size<=1000) (ho:s.ol.size<=1000) (hw:s.nw.size<=1000):Calls Tryz.prog 134 #[.pointer (some ⟨b,0,none⟩),.agg (s.A I T)] wr fun r w'=>r=.returned (.tuple #[])/\LdS w w' b0 b s I T (layC s A) (j+300000) :=
 (layChange_any h.wS hj hk ho hw).mono fun e w' ⟨he,h1,o1⟩=>⟨he,h.step h1 o1⟩
theorem LdS.images {a:Option Addr} {c:Nat} {l:List Im} (h:LdS w wr b0 b s I T A j) (hj:j<=10000000000) (hA:Bare A) (hn:l.length<=10000000000000) (hcs:Cs w a (encI l)) (hb:w.heap.size<=b) (ht:∀ p∈l,p.2.size<=1000):Calls Tryz.prog 132 #[.pointer (some ⟨b,0,none⟩),.slice a l.length c] wr fun r w'=>r=.returned (.tuple #[])/\LdS w w' b0 b s I T (layI l (stepW A l.length 1)) (j+70000000):=by
 have hne:l≠[]->∀ b'' off',a=some ⟨b'',off',none⟩->b''≠b:=by
  intro hl b'' off' e
  obtain⟨b',off,e',hlt,_⟩:=hcs.at_ 0 (by rw[encI_length];exact List.length_pos_iff.2 hl)
  rw[e'] at e
  cases e
  omega
 have hcs':Cs wr a (encI l):=by
  by_cases hl:l=[]
  ·subst hl;exact Cs.nil _ _
  ·exact hcs.off h.off (hne hl)
 refine(layImages_any h.wS hj hA l rfl hn hcs' hne ht).mono ?_
 rintro e w' ⟨he,h1,o1⟩
 exact⟨he,h.step h1 o1⟩
theorem LdS.table {a:Option Addr} {c:Nat} {l:List Tb} (h:LdS w wr b0 b s I T A j) (hj:j<=10000000000) (hA:Bare A) (hn:l.length<=10000000000000) (hcs:Cs w a (encT l)) (hb:w.heap.size<=b):Calls Tryz.prog 135 #[.pointer (some ⟨b,0,none⟩),.slice a l.length c] wr fun r w'=>r=.returned (.tuple #[])/\LdS w w' b0 b s I T (layB l (stepW A l.length 1)) (j+70000000):=by
 have hne:l≠[]->∀ b'' off',a=some ⟨b'',off',none⟩->b''≠b:=by
  intro hl b'' off' e
  obtain⟨b',off,e',hlt,_⟩:=hcs.at_ 0 (by rw[encT_length];exact List.length_pos_iff.2 hl)
  rw[e'] at e
  cases e
  omega
 have hcs':Cs wr a (encT l):=by
  by_cases hl:l=[]
  ·subst hl;exact Cs.nil _ _
  ·exact hcs.off h.off (hne hl)
 refine(layTable_any h.wS hj hA l rfl hn hcs' hne).mono ?_
 rintro e w' ⟨he,h1,o1⟩
 exact⟨he,h.step h1 o1⟩
theorem LdS.all (h:LdS w wr b0 b s I T A j) (hj:j<=100000000000) (hb:w.heap.size<=b) (hB:Bare A):Calls Tryz.prog 136 #[.pointer (some ⟨b,0,none⟩)] wr fun r w'=>r=.returned (.tuple #[.string A.1,.int .i64 A.2])/\Below w.heap.size w w':=by
 have hz:=h.wS.sz
 have hl:=h.off.below hb (Nat.le_refl _)
 exact(All_both b A.1 A.2 wr h.wS.wr (by omega) hB).mono fun e w' ⟨he,h1⟩=>⟨he,thn hl h1⟩
end
section
variable {w:World}{s:Sc}{I T:Value}
set_option maxHeartbeats 1000000 in
theorem laid_1 (hk:s.kd=1) {a:Option Addr} {c:Nat} {l:List Im} (hn:l.length<=10000000000000) (hcs:Cs w a (encI l)) (ht:∀ p∈l,p.2.size<=1000):Calls Tryz.prog 103 #[.agg (s.A (.slice a l.length c) T)] w fun r w'=>r=.returned (.tuple #[.string (layI l (stepW (stepW (⟨#[]⟩,0) s.kd 1) l.length 1)).1,.int .i64 (layI l (stepW (stepW (⟨#[]⟩,0) s.kd 1) l.length 1)).2])/\Below w.heap.size w w':=by
 have e1:(s.kd==1)=true:=by rw[hk];rfl
 clear hk
 go_enter Tryz.func103,Tryz.ntmps103
 go_wp2_with (first
  | (refine wpList_box_rc (s:=s) (I:=_) (T:=_) _ rfl _ rfl rfl ?_;intro w0 b0 N0)
  | (refine wpList_new_wr _ rfl rfl ?_;intro w1 b1 N1;have H:=LdS.start N0 N1;have hb1:w.heap.size<=b1:=(Nat.le_trans N0.below.size (Nat.le_of_eq N1.eq.symm));clear N0 N1;have k0:=H.rc.c0;have k9:=H.rc.c9)
  | (go_at_call 131;refine(H.num (by omega) _ _).mono ?_;clear H;rintro e w3 ⟨rfl,H⟩;have k0:=H.rc.c0;have k9:=H.rc.c9)
  | (go_at_call 132;refine(H.images (by omega) (bare0.stepW _ _) hn hcs hb1 ht).mono ?_;clear H;rintro e w3 ⟨rfl,H⟩)
  | (go_at_call 136;refine(H.all (by omega) hb1 (((bare0.stepW _ _).stepW _ _).layI _)).mono ?_;rintro e w9 ⟨rfl,b9⟩))
 go_ret2
 exact⟨rfl,b9⟩
set_option maxHeartbeats 1000000 in
theorem laid_2 (hk:s.kd=2) {a:Option Addr} {c:Nat} {l:List Im} (hn:l.length<=10000000000000) (hcs:Cs w a (encI l)) (ht:∀ p∈l,p.2.size<=1000):Calls Tryz.prog 103 #[.agg (s.A (.slice a l.length c) T)] w fun r w'=>r=.returned (.tuple #[.string (layI l (stepW (stepW (⟨#[]⟩,0) s.kd 1) l.length 1)).1,.int .i64 (layI l (stepW (stepW (⟨#[]⟩,0) s.kd 1) l.length 1)).2])/\Below w.heap.size w w':=by
 have e1:(s.kd==1)=false:=by rw[hk];rfl
 have e2:(s.kd==2)=true:=by rw[hk];rfl
 clear hk
 go_enter Tryz.func103,Tryz.ntmps103
 go_wp2_with (first
  | (refine wpList_box_rc (s:=s) (I:=_) (T:=_) _ rfl _ rfl rfl ?_;intro w0 b0 N0)
  | (refine wpList_new_wr _ rfl rfl ?_;intro w1 b1 N1;have H:=LdS.start N0 N1;have hb1:w.heap.size<=b1:=(Nat.le_trans N0.below.size (Nat.le_of_eq N1.eq.symm));clear N0 N1;have k0:=H.rc.c0;have k9:=H.rc.c9)
  | (go_at_call 131;refine(H.num (by omega) _ _).mono ?_;clear H;rintro e w3 ⟨rfl,H⟩;have k0:=H.rc.c0;have k9:=H.rc.c9)
  | (go_at_call 132;refine(H.images (by omega) (bare0.stepW _ _) hn hcs hb1 ht).mono ?_;clear H;rintro e w3 ⟨rfl,H⟩)
  | (go_at_call 136;refine(H.all (by omega) hb1 (((bare0.stepW _ _).stepW _ _).layI _)).mono ?_;rintro e w9 ⟨rfl,b9⟩))
 go_ret2
 exact⟨rfl,b9⟩
set_option maxHeartbeats 1000000 in
theorem laid_3 (hk:s.kd=3) (hy:s.ky.size<=1000) (ho:s.ol.size<=1000) (hw:s.nw.size<=1000):Calls Tryz.prog 103 #[.agg (s.A I T)] w fun r w'=>r=.returned (.tuple #[.string (layC s (layP [s.tx,s.pv] (stepW (⟨#[]⟩,0) s.kd 1))).1,.int .i64 (layC s (layP [s.tx,s.pv] (stepW (⟨#[]⟩,0) s.kd 1))).2])/\Below w.heap.size w w':=by
 have e1:(s.kd==1)=false:=by rw[hk];rfl
 have e2:(s.kd==2)=false:=by rw[hk];rfl
 have e3:(s.kd==3)=true:=by rw[hk];rfl
 clear hk
 go_enter Tryz.func103,Tryz.ntmps103
 go_wp2_with (first
  | (refine wpList_box_rc (s:=s) (I:=_) (T:=_) _ rfl _ rfl rfl ?_;intro w0 b0 N0)
  | (refine wpList_new_wr _ rfl rfl ?_;intro w1 b1 N1;have H:=LdS.start N0 N1;have hb1:w.heap.size<=b1:=(Nat.le_trans N0.below.size (Nat.le_of_eq N1.eq.symm));clear N0 N1;have k0:=H.rc.c0;have k1:=H.rc.c1;have k2:=H.rc.c2)
  | (go_at_call 131;refine(H.num (by omega) _ _).mono ?_;clear H;rintro e w3 ⟨rfl,H⟩;have k0:=H.rc.c0;have k1:=H.rc.c1;have k2:=H.rc.c2)
  | (go_at_call 133;refine(H.places2 (by omega) _ _).mono ?_;clear H;rintro e w3 ⟨rfl,H⟩;have k0:=H.rc.c0;have k1:=H.rc.c1;have k2:=H.rc.c2)
  | (refine wpList_load_rc _ rfl _ rfl rfl H.rc ?_)
  | (go_at_call 134;refine(H.change (by omega) hy ho hw).mono ?_;clear H;rintro e w3 ⟨rfl,H⟩)
  | (go_at_call 136;refine(H.all (by omega) hb1 (((bare0.stepW _ _).layP _).layC _)).mono ?_;rintro e w9 ⟨rfl,b9⟩))
 go_ret2
 exact⟨rfl,b9⟩
set_option maxHeartbeats 1000000 in
theorem laid_4 (hk:s.kd=4) (hy:s.ky.size<=1000) (ho:s.ol.size<=1000) (hw:s.nw.size<=1000):Calls Tryz.prog 103 #[.agg (s.A I T)] w fun r w'=>r=.returned (.tuple #[.string (layC s (layP [s.tx,s.pv] (stepW (⟨#[]⟩,0) s.kd 1))).1,.int .i64 (layC s (layP [s.tx,s.pv] (stepW (⟨#[]⟩,0) s.kd 1))).2])/\Below w.heap.size w w':=by
 have e1:(s.kd==1)=false:=by rw[hk];rfl
 have e2:(s.kd==2)=false:=by rw[hk];rfl
 have e3:(s.kd==3)=false:=by rw[hk];rfl
 have e4:(s.kd==4)=true:=by rw[hk];rfl
 clear hk
 go_enter Tryz.func103,Tryz.ntmps103
 go_wp2_with (first
  | (refine wpList_box_rc (s:=s) (I:=_) (T:=_) _ rfl _ rfl rfl ?_;intro w0 b0 N0)
  | (refine wpList_new_wr _ rfl rfl ?_;intro w1 b1 N1;have H:=LdS.start N0 N1;have hb1:w.heap.size<=b1:=(Nat.le_trans N0.below.size (Nat.le_of_eq N1.eq.symm));clear N0 N1;have k0:=H.rc.c0;have k1:=H.rc.c1;have k2:=H.rc.c2)
  | (go_at_call 131;refine(H.num (by omega) _ _).mono ?_;clear H;rintro e w3 ⟨rfl,H⟩;have k0:=H.rc.c0;have k1:=H.rc.c1;have k2:=H.rc.c2)
  | (go_at_call 133;refine(H.places2 (by omega) _ _).mono ?_;clear H;rintro e w3 ⟨rfl,H⟩;have k0:=H.rc.c0;have k1:=H.rc.c1;have k2:=H.rc.c2)
  | (refine wpList_load_rc _ rfl _ rfl rfl H.rc ?_)
  | (go_at_call 134;refine(H.change (by omega) hy ho hw).mono ?_;clear H;rintro e w3 ⟨rfl,H⟩)
  | (go_at_call 136;refine(H.all (by omega) hb1 (((bare0.stepW _ _).layP _).layC _)).mono ?_;rintro e w9 ⟨rfl,b9⟩))
 go_ret2
 exact⟨rfl,b9⟩
set_option maxHeartbeats 1000000 in
theorem laid_5 (hk:s.kd=5) (hy:s.ky.size<=1000) (ho:s.ol.size<=1000) (hw:s.nw.size<=1000):Calls Tryz.prog 103 #[.agg (s.A I T)] w fun r w'=>r=.returned (.tuple #[.string (layC s (layP [s.tx,s.pv] (stepW (⟨#[]⟩,0) s.kd 1))).1,.int .i64 (layC s (layP [s.tx,s.pv] (stepW (⟨#[]⟩,0) s.kd 1))).2])/\Below w.heap.size w w':=by
 have e1:(s.kd==1)=false:=by rw[hk];rfl
 have e2:(s.kd==2)=false:=by rw[hk];rfl
 have e3:(s.kd==3)=false:=by rw[hk];rfl
 have e4:(s.kd==4)=false:=by rw[hk];rfl
 have e5:(s.kd==5)=true:=by rw[hk];rfl
 clear hk
 go_enter Tryz.func103,Tryz.ntmps103
 go_wp2_with (first
  | (refine wpList_box_rc (s:=s) (I:=_) (T:=_) _ rfl _ rfl rfl ?_;intro w0 b0 N0)
  | (refine wpList_new_wr _ rfl rfl ?_;intro w1 b1 N1;have H:=LdS.start N0 N1;have hb1:w.heap.size<=b1:=(Nat.le_trans N0.below.size (Nat.le_of_eq N1.eq.symm));clear N0 N1;have k0:=H.rc.c0;have k1:=H.rc.c1;have k2:=H.rc.c2)
  | (go_at_call 131;refine(H.num (by omega) _ _).mono ?_;clear H;rintro e w3 ⟨rfl,H⟩;have k0:=H.rc.c0;have k1:=H.rc.c1;have k2:=H.rc.c2)
  | (go_at_call 133;refine(H.places2 (by omega) _ _).mono ?_;clear H;rintro e w3 ⟨rfl,H⟩;have k0:=H.rc.c0;have k1:=H.rc.c1;have k2:=H.rc.c2)
  | (refine wpList_load_rc _ rfl _ rfl rfl H.rc ?_)
  | (go_at_call 134;refine(H.change (by omega) hy ho hw).mono ?_;clear H;rintro e w3 ⟨rfl,H⟩)
  | (go_at_call 136;refine(H.all (by omega) hb1 (((bare0.stepW _ _).layP _).layC _)).mono ?_;rintro e w9 ⟨rfl,b9⟩))
 go_ret2
 exact⟨rfl,b9⟩
set_option maxHeartbeats 1000000 in
theorem laid_6 (hk:s.kd=6) (hy:s.ky.size<=1000) (ho:s.ol.size<=1000) (hw:s.nw.size<=1000):Calls Tryz.prog 103 #[.agg (s.A I T)] w fun r w'=>r=.returned (.tuple #[.string (layC s (stepW (layP [s.tx,s.pv,s.nx] (stepW (⟨#[]⟩,0) s.kd 1)) s.ac 1)).1,.int .i64 (layC s (stepW (layP [s.tx,s.pv,s.nx] (stepW (⟨#[]⟩,0) s.kd 1)) s.ac 1)).2])/\Below w.heap.size w w':=by
 have e1:(s.kd==1)=false:=by rw[hk];rfl
 have e2:(s.kd==2)=false:=by rw[hk];rfl
 have e3:(s.kd==3)=false:=by rw[hk];rfl
 have e4:(s.kd==4)=false:=by rw[hk];rfl
 have e5:(s.kd==5)=false:=by rw[hk];rfl
 have e6:(s.kd==6)=true:=by rw[hk];rfl
 clear hk
 go_enter Tryz.func103,Tryz.ntmps103
 go_wp2_with (first
  | (refine wpList_box_rc (s:=s) (I:=_) (T:=_) _ rfl _ rfl rfl ?_;intro w0 b0 N0)
  | (refine wpList_new_wr _ rfl rfl ?_;intro w1 b1 N1;have H:=LdS.start N0 N1;have hb1:w.heap.size<=b1:=(Nat.le_trans N0.below.size (Nat.le_of_eq N1.eq.symm));clear N0 N1;have k0:=H.rc.c0;have k1:=H.rc.c1;have k2:=H.rc.c2;have k8:=H.rc.c8;have k4:=H.rc.c4)
  | (go_at_call 131;refine(H.num (by omega) _ _).mono ?_;clear H;rintro e w3 ⟨rfl,H⟩;have k0:=H.rc.c0;have k1:=H.rc.c1;have k2:=H.rc.c2;have k8:=H.rc.c8;have k4:=H.rc.c4)
  | (go_at_call 133;refine(H.places3 (by omega) _ _ _).mono ?_;clear H;rintro e w3 ⟨rfl,H⟩;have k0:=H.rc.c0;have k1:=H.rc.c1;have k2:=H.rc.c2;have k8:=H.rc.c8;have k4:=H.rc.c4)
  | (refine wpList_load_rc _ rfl _ rfl rfl H.rc ?_)
  | (go_at_call 134;refine(H.change (by omega) hy ho hw).mono ?_;clear H;rintro e w3 ⟨rfl,H⟩)
  | (go_at_call 136;refine(H.all (by omega) hb1 ((((bare0.stepW _ _).layP _).stepW _ _).layC _)).mono ?_;rintro e w9 ⟨rfl,b9⟩))
 go_ret2
 exact⟨rfl,b9⟩
set_option maxHeartbeats 1000000 in
theorem laid_7 (hk:s.kd=7) :Calls Tryz.prog 103 #[.agg (s.A I T)] w fun r w'=>r=.returned (.tuple #[.string (layP [s.tx,s.pv] (stepW (⟨#[]⟩,0) s.kd 1)).1,.int .i64 (layP [s.tx,s.pv] (stepW (⟨#[]⟩,0) s.kd 1)).2])/\Below w.heap.size w w':=by
 have e1:(s.kd==1)=false:=by rw[hk];rfl
 have e2:(s.kd==2)=false:=by rw[hk];rfl
 have e3:(s.kd==3)=false:=by rw[hk];rfl
 have e4:(s.kd==4)=false:=by rw[hk];rfl
 have e5:(s.kd==5)=false:=by rw[hk];rfl
 have e6:(s.kd==6)=false:=by rw[hk];rfl
 have e7:(s.kd==7)=true:=by rw[hk];rfl
 clear hk
 go_enter Tryz.func103,Tryz.ntmps103
 go_wp2_with (first
  | (refine wpList_box_rc (s:=s) (I:=_) (T:=_) _ rfl _ rfl rfl ?_;intro w0 b0 N0)
  | (refine wpList_new_wr _ rfl rfl ?_;intro w1 b1 N1;have H:=LdS.start N0 N1;have hb1:w.heap.size<=b1:=(Nat.le_trans N0.below.size (Nat.le_of_eq N1.eq.symm));clear N0 N1;have k0:=H.rc.c0;have k1:=H.rc.c1;have k2:=H.rc.c2)
  | (go_at_call 131;refine(H.num (by omega) _ _).mono ?_;clear H;rintro e w3 ⟨rfl,H⟩;have k0:=H.rc.c0;have k1:=H.rc.c1;have k2:=H.rc.c2)
  | (go_at_call 133;refine(H.places2 (by omega) _ _).mono ?_;clear H;rintro e w3 ⟨rfl,H⟩;have k0:=H.rc.c0;have k1:=H.rc.c1;have k2:=H.rc.c2)
  | (go_at_call 136;refine(H.all (by omega) hb1 ((bare0.stepW _ _).layP _)).mono ?_;rintro e w9 ⟨rfl,b9⟩))
 go_ret2
 exact⟨rfl,b9⟩
set_option maxHeartbeats 1000000 in
theorem laid_8 (hk:s.kd=8) :Calls Tryz.prog 103 #[.agg (s.A I T)] w fun r w'=>r=.returned (.tuple #[.string (layP [s.tx,s.pv] (stepW (⟨#[]⟩,0) s.kd 1)).1,.int .i64 (layP [s.tx,s.pv] (stepW (⟨#[]⟩,0) s.kd 1)).2])/\Below w.heap.size w w':=by
 have e1:(s.kd==1)=false:=by rw[hk];rfl
 have e2:(s.kd==2)=false:=by rw[hk];rfl
 have e3:(s.kd==3)=false:=by rw[hk];rfl
 have e4:(s.kd==4)=false:=by rw[hk];rfl
 have e5:(s.kd==5)=false:=by rw[hk];rfl
 have e6:(s.kd==6)=false:=by rw[hk];rfl
 have e7:(s.kd==7)=false:=by rw[hk];rfl
 have e8:(s.kd==8)=true:=by rw[hk];rfl
 clear hk
 go_enter Tryz.func103,Tryz.ntmps103
 go_wp2_with (first
  | (refine wpList_box_rc (s:=s) (I:=_) (T:=_) _ rfl _ rfl rfl ?_;intro w0 b0 N0)
  | (refine wpList_new_wr _ rfl rfl ?_;intro w1 b1 N1;have H:=LdS.start N0 N1;have hb1:w.heap.size<=b1:=(Nat.le_trans N0.below.size (Nat.le_of_eq N1.eq.symm));clear N0 N1;have k0:=H.rc.c0;have k1:=H.rc.c1;have k2:=H.rc.c2)
  | (go_at_call 131;refine(H.num (by omega) _ _).mono ?_;clear H;rintro e w3 ⟨rfl,H⟩;have k0:=H.rc.c0;have k1:=H.rc.c1;have k2:=H.rc.c2)
  | (go_at_call 133;refine(H.places2 (by omega) _ _).mono ?_;clear H;rintro e w3 ⟨rfl,H⟩;have k0:=H.rc.c0;have k1:=H.rc.c1;have k2:=H.rc.c2)
  | (go_at_call 136;refine(H.all (by omega) hb1 ((bare0.stepW _ _).layP _)).mono ?_;rintro e w9 ⟨rfl,b9⟩))
 go_ret2
 exact⟨rfl,b9⟩
set_option maxHeartbeats 1000000 in
theorem laid_9 (hk:s.kd=9) {a:Option Addr} {c:Nat} {l:List Tb} (hn:l.length<=10000000000000) (hcs:Cs w a (encT l)):Calls Tryz.prog 103 #[.agg (s.A I (.slice a l.length c))] w fun r w'=>r=.returned (.tuple #[.string (layB l (stepW (stepW (⟨#[]⟩,0) s.kd 1) l.length 1)).1,.int .i64 (layB l (stepW (stepW (⟨#[]⟩,0) s.kd 1) l.length 1)).2])/\Below w.heap.size w w':=by
 have e1:(s.kd==1)=false:=by rw[hk];rfl
 have e2:(s.kd==2)=false:=by rw[hk];rfl
 have e3:(s.kd==3)=false:=by rw[hk];rfl
 have e4:(s.kd==4)=false:=by rw[hk];rfl
 have e5:(s.kd==5)=false:=by rw[hk];rfl
 have e6:(s.kd==6)=false:=by rw[hk];rfl
 have e7:(s.kd==7)=false:=by rw[hk];rfl
 have e8:(s.kd==8)=false:=by rw[hk];rfl
 have e9:(s.kd==9)=true:=by rw[hk];rfl
 clear hk
 go_enter Tryz.func103,Tryz.ntmps103
 go_wp2_with (first
  | (refine wpList_box_rc (s:=s) (I:=_) (T:=_) _ rfl _ rfl rfl ?_;intro w0 b0 N0)
  | (refine wpList_new_wr _ rfl rfl ?_;intro w1 b1 N1;have H:=LdS.start N0 N1;have hb1:w.heap.size<=b1:=(Nat.le_trans N0.below.size (Nat.le_of_eq N1.eq.symm));clear N0 N1;have k0:=H.rc.c0;have k10:=H.rc.c10)
  | (go_at_call 131;refine(H.num (by omega) _ _).mono ?_;clear H;rintro e w3 ⟨rfl,H⟩;have k0:=H.rc.c0;have k10:=H.rc.c10)
  | (go_at_call 135;refine(H.table (by omega) (bare0.stepW _ _) hn hcs hb1).mono ?_;clear H;rintro e w3 ⟨rfl,H⟩)
  | (go_at_call 136;refine(H.all (by omega) hb1 (((bare0.stepW _ _).stepW _ _).layB _)).mono ?_;rintro e w9 ⟨rfl,b9⟩))
 go_ret2
 exact⟨rfl,b9⟩
set_option maxHeartbeats 1000000 in
theorem laid_10 (hk:s.kd=10) :Calls Tryz.prog 103 #[.agg (s.A I T)] w fun r w'=>r=.returned (.tuple #[.string (stepW (stepW (stepW (⟨#[]⟩,0) s.kd 1) s.ep 4) s.nd 1).1,.int .i64 (stepW (stepW (stepW (⟨#[]⟩,0) s.kd 1) s.ep 4) s.nd 1).2])/\Below w.heap.size w w':=by
 have e1:(s.kd==1)=false:=by rw[hk];rfl
 have e2:(s.kd==2)=false:=by rw[hk];rfl
 have e3:(s.kd==3)=false:=by rw[hk];rfl
 have e4:(s.kd==4)=false:=by rw[hk];rfl
 have e5:(s.kd==5)=false:=by rw[hk];rfl
 have e6:(s.kd==6)=false:=by rw[hk];rfl
 have e7:(s.kd==7)=false:=by rw[hk];rfl
 have e8:(s.kd==8)=false:=by rw[hk];rfl
 have e9:(s.kd==9)=false:=by rw[hk];rfl
 have e10:(s.kd==10)=true:=by rw[hk];rfl
 clear hk
 go_enter Tryz.func103,Tryz.ntmps103
 go_wp2_with (first
  | (refine wpList_box_rc (s:=s) (I:=_) (T:=_) _ rfl _ rfl rfl ?_;intro w0 b0 N0)
  | (refine wpList_new_wr _ rfl rfl ?_;intro w1 b1 N1;have H:=LdS.start N0 N1;have hb1:w.heap.size<=b1:=(Nat.le_trans N0.below.size (Nat.le_of_eq N1.eq.symm));clear N0 N1;have k0:=H.rc.c0;have k11:=H.rc.c11;have k12:=H.rc.c12)
  | (go_at_call 131;refine(H.num (by omega) _ _).mono ?_;clear H;rintro e w3 ⟨rfl,H⟩;have k0:=H.rc.c0;have k11:=H.rc.c11;have k12:=H.rc.c12)
  | (go_at_call 136;refine(H.all (by omega) hb1 (((bare0.stepW _ _).stepW _ _).stepW _ _)).mono ?_;rintro e w9 ⟨rfl,b9⟩))
 go_ret2
 exact⟨rfl,b9⟩
end
def kS (k:Int):Sc:={zS with kd:=k}
structure Cl3 (w wr:World) (b0 b1 b2:Nat) (s:Sc) (I T:Value) (c:Sc) (J U:Value):Prop where
 p:RcAt wr b0 s I T
 r:RcAt wr b1 zS nilV nilV
 c:RcAt wr b2 c J U
 bel:Below w.heap.size w wr
 n02:b0≠b2
 n12:b1≠b2
 l1:w.heap.size<=b1
 l2:w.heap.size<=b2
section
variable {w wr wq:World}{b0 b1 b2:Nat}{s c c':Sc}{I T J U J' U':Value}
theorem Cl3.mk' {w0 w1 w2 w3:World} (N0:NewR w w0 b0 s I T) (N1:NewR w0 w1 b1 zS nilV nilV) (N2:NewR w1 w2 b2 zS nilV nilV) (P:PutR w2 w3 b2 c J U):Cl3 w w3 b0 b1 b2 s I T c J U:=by
 have e0:=N0.eq
 have e1:=N1.eq
 have e2:=N2.eq
 have z0:=N0.rc.lt
 have z1:=N1.rc.lt
 have z2:=N0.below.size
 have z3:=N1.below.size
 have z4:=N2.below.size
 refine⟨((N0.rc.below N1.below).below N2.below).off P.off (by omega),(N1.rc.below N2.below).off P.off (by omega),P.rc,(thn (thn N0.below N1.below) N2.below).trans (P.below (by omega) (by omega)),by omega,by omega,by omega,by omega⟩
theorem Cl3.put (h:Cl3 w wr b0 b1 b2 s I T c J U) (hr:RcAt wq b2 c' J' U') (o:Pk.Off b2 wr wq):Cl3 w wq b0 b1 b2 s I T c' J' U' :=
 ⟨h.p.off o h.n02,h.r.off o h.n12,hr,h.bel.trans (o.below h.l2 h.bel.size),h.n02,h.n12,h.l1,h.l2⟩
theorem Cl3.below (h:Cl3 w wr b0 b1 b2 s I T c J U) (hb:Below wr.heap.size wr wq):Cl3 w wq b0 b1 b2 s I T c J U :=
 ⟨h.p.below hb,h.r.below hb,h.c.below hb,thn h.bel hb,h.n02,h.n12,h.l1,h.l2⟩
theorem Cl3.ret (h:Cl3 w wr b0 b1 b2 s I T c J U) (P:PutR wr wq b1 c J U):RcAt wq b1 c J U/\Below w.heap.size w wq:=⟨P.rc,h.bel.trans (P.below h.l1 h.bel.size)⟩
end
section
variable {w:World}{s:Sc}{I T:Value}
set_option maxHeartbeats 1000000 in
theorem clean_7 (hk:s.kd=7):Calls Tryz.prog 79 #[.agg (s.A I T)] w fun e w'=>e=.returned (.agg (({kS s.kd with tx:=s.tx,pv:=s.pv}:Sc).A nilV nilV))/\Below w.heap.size w w':=by
 have e1:(s.kd==1)=false:=by rw[hk];rfl
 have e2:(s.kd==2)=false:=by rw[hk];rfl
 have e3:(s.kd==3)=false:=by rw[hk];rfl
 have e4:(s.kd==4)=false:=by rw[hk];rfl
 have e5:(s.kd==5)=false:=by rw[hk];rfl
 have e6:(s.kd==6)=false:=by rw[hk];rfl
 have e7:(s.kd==7)=true:=by rw[hk];rfl
 clear hk
 go_enter Tryz.func79,Tryz.ntmps79
 go_wp2_with (first
  | (refine wpList_box_rc (s:=s) (I:=_) (T:=_) _ rfl _ rfl rfl ?_;intro w0 b0 N0)
  | (have:=N1;refine wpList_new_rc _ rfl rfl ?_;intro w2 b2 N2;have k00:=((N0.rc.below N1.below).below N2.below).c0)
  | (refine wpList_new_rc _ rfl rfl ?_;intro w1 b1 N1;have k00:=(N0.rc.below N1.below).c0)
  | (refine wpList_at (Op.store 54 (.tmp 3) (.tmp 6)) rfl ?_;refine wpList_put_rc (s':=kS s.kd) (I':=nilV) (T':=nilV) _ rfl (.tmp 3) (.tmp 6) rfl rfl rfl N2.rc rfl rfl ?_;intro w3 P3;have H:=Cl3.mk' N0 N1 N2 P3;clear N0 N1 N2 P3 k00;have k00:=H.p.c0;have q0:=H.c.f;have p1:=H.p.c1;have c1:=H.c.c1;have p2:=H.p.c2;have c2:=H.c.c2)
  | (refine wpList_at (Op.store 3 (.tmp 51) (.tmp 48)) rfl ?_;refine wpList_fput (s':={kS s.kd with tx:=s.tx}) (I':=nilV) (T':=nilV) _ rfl 3 (.tmp 51) (.tmp 48) rfl rfl rfl H.c (by omega) rfl (by kernel_rfl) rfl ?_;intro w4 P4;have H4:=H.put P4.rc P4.off;clear H;have H:=H4;clear H4 P4)
  | (refine wpList_at (Op.store 3 (.tmp 52) (.tmp 50)) rfl ?_;refine wpList_fput (s':={kS s.kd with tx:=s.tx,pv:=s.pv}) (I':=nilV) (T':=nilV) _ rfl 3 (.tmp 52) (.tmp 50) rfl rfl rfl H.c (by omega) rfl (by kernel_rfl) rfl ?_;intro w4 P4;have H4:=H.put P4.rc P4.off;clear H;have H:=H4;clear H4 P4)
  | (refine wpList_load_rc _ rfl (.tmp 3) rfl rfl H.c ?_)
  | (refine wpList_at (Op.store 54 (.tmp 2) (.tmp 69)) rfl ?_;refine wpList_put_rc (s':={kS s.kd with tx:=s.tx,pv:=s.pv}) (I':=nilV) (T':=nilV) _ rfl (.tmp 2) (.tmp 69) rfl rfl rfl H.r rfl rfl ?_;intro w9 P9))
 obtain⟨g1,g2⟩:=H.ret P9
 refine bodyPost_ret (results_rc1 rfl _ _ rfl g1) rfl ?_
 exact⟨rfl,g2⟩
set_option maxHeartbeats 1000000 in
theorem clean_8 (hk:s.kd=8):Calls Tryz.prog 79 #[.agg (s.A I T)] w fun e w'=>e=.returned (.agg (({kS s.kd with tx:=s.tx,pv:=s.pv}:Sc).A nilV nilV))/\Below w.heap.size w w':=by
 have e1:(s.kd==1)=false:=by rw[hk];rfl
 have e2:(s.kd==2)=false:=by rw[hk];rfl
 have e3:(s.kd==3)=false:=by rw[hk];rfl
 have e4:(s.kd==4)=false:=by rw[hk];rfl
 have e5:(s.kd==5)=false:=by rw[hk];rfl
 have e6:(s.kd==6)=false:=by rw[hk];rfl
 have e7:(s.kd==7)=false:=by rw[hk];rfl
 have e8:(s.kd==8)=true:=by rw[hk];rfl
 clear hk
 go_enter Tryz.func79,Tryz.ntmps79
 go_wp2_with (first
  | (refine wpList_box_rc (s:=s) (I:=_) (T:=_) _ rfl _ rfl rfl ?_;intro w0 b0 N0)
  | (have:=N1;refine wpList_new_rc _ rfl rfl ?_;intro w2 b2 N2;have k00:=((N0.rc.below N1.below).below N2.below).c0)
  | (refine wpList_new_rc _ rfl rfl ?_;intro w1 b1 N1;have k00:=(N0.rc.below N1.below).c0)
  | (refine wpList_at (Op.store 54 (.tmp 3) (.tmp 6)) rfl ?_;refine wpList_put_rc (s':=kS s.kd) (I':=nilV) (T':=nilV) _ rfl (.tmp 3) (.tmp 6) rfl rfl rfl N2.rc rfl rfl ?_;intro w3 P3;have H:=Cl3.mk' N0 N1 N2 P3;clear N0 N1 N2 P3 k00;have k00:=H.p.c0;have q0:=H.c.f;have p1:=H.p.c1;have c1:=H.c.c1;have p2:=H.p.c2;have c2:=H.c.c2)
  | (refine wpList_at (Op.store 3 (.tmp 51) (.tmp 48)) rfl ?_;refine wpList_fput (s':={kS s.kd with tx:=s.tx}) (I':=nilV) (T':=nilV) _ rfl 3 (.tmp 51) (.tmp 48) rfl rfl rfl H.c (by omega) rfl (by kernel_rfl) rfl ?_;intro w4 P4;have H4:=H.put P4.rc P4.off;clear H;have H:=H4;clear H4 P4)
  | (refine wpList_at (Op.store 3 (.tmp 52) (.tmp 50)) rfl ?_;refine wpList_fput (s':={kS s.kd with tx:=s.tx,pv:=s.pv}) (I':=nilV) (T':=nilV) _ rfl 3 (.tmp 52) (.tmp 50) rfl rfl rfl H.c (by omega) rfl (by kernel_rfl) rfl ?_;intro w4 P4;have H4:=H.put P4.rc P4.off;clear H;have H:=H4;clear H4 P4)
  | (refine wpList_load_rc _ rfl (.tmp 3) rfl rfl H.c ?_)
  | (refine wpList_at (Op.store 54 (.tmp 2) (.tmp 69)) rfl ?_;refine wpList_put_rc (s':={kS s.kd with tx:=s.tx,pv:=s.pv}) (I':=nilV) (T':=nilV) _ rfl (.tmp 2) (.tmp 69) rfl rfl rfl H.r rfl rfl ?_;intro w9 P9))
 obtain⟨g1,g2⟩:=H.ret P9
 refine bodyPost_ret (results_rc1 rfl _ _ rfl g1) rfl ?_
 exact⟨rfl,g2⟩
set_option maxHeartbeats 1000000 in
theorem clean_10 (hk:s.kd=10):Calls Tryz.prog 79 #[.agg (s.A I T)] w fun e w'=>e=.returned (.agg (({kS s.kd with ep:=s.ep,nd:=s.nd}:Sc).A nilV nilV))/\Below w.heap.size w w':=by
 have e1:(s.kd==1)=false:=by rw[hk];rfl
 have e2:(s.kd==2)=false:=by rw[hk];rfl
 have e3:(s.kd==3)=false:=by rw[hk];rfl
 have e4:(s.kd==4)=false:=by rw[hk];rfl
 have e5:(s.kd==5)=false:=by rw[hk];rfl
 have e6:(s.kd==6)=false:=by rw[hk];rfl
 have e7:(s.kd==7)=false:=by rw[hk];rfl
 have e8:(s.kd==8)=false:=by rw[hk];rfl
 have e9:(s.kd==9)=false:=by rw[hk];rfl
 have e10:(s.kd==10)=true:=by rw[hk];rfl
 clear hk
 go_enter Tryz.func79,Tryz.ntmps79
 go_wp2_with (first
  | (refine wpList_box_rc (s:=s) (I:=_) (T:=_) _ rfl _ rfl rfl ?_;intro w0 b0 N0)
  | (have:=N1;refine wpList_new_rc _ rfl rfl ?_;intro w2 b2 N2;have k00:=((N0.rc.below N1.below).below N2.below).c0)
  | (refine wpList_new_rc _ rfl rfl ?_;intro w1 b1 N1;have k00:=(N0.rc.below N1.below).c0)
  | (refine wpList_at (Op.store 54 (.tmp 3) (.tmp 6)) rfl ?_;refine wpList_put_rc (s':=kS s.kd) (I':=nilV) (T':=nilV) _ rfl (.tmp 3) (.tmp 6) rfl rfl rfl N2.rc rfl rfl ?_;intro w3 P3;have H:=Cl3.mk' N0 N1 N2 P3;clear N0 N1 N2 P3 k00;have k00:=H.p.c0;have q0:=H.c.f;have p11:=H.p.c11;have c11:=H.c.c11;have p12:=H.p.c12;have c12:=H.c.c12)
  | (refine wpList_at (Op.store 3 (.tmp 67) (.tmp 64)) rfl ?_;refine wpList_fput (s':={kS s.kd with ep:=s.ep}) (I':=nilV) (T':=nilV) _ rfl 3 (.tmp 67) (.tmp 64) rfl rfl rfl H.c (by omega) rfl (by kernel_rfl) rfl ?_;intro w4 P4;have H4:=H.put P4.rc P4.off;clear H;have H:=H4;clear H4 P4)
  | (refine wpList_at (Op.store 3 (.tmp 68) (.tmp 66)) rfl ?_;refine wpList_fput (s':={kS s.kd with ep:=s.ep,nd:=s.nd}) (I':=nilV) (T':=nilV) _ rfl 3 (.tmp 68) (.tmp 66) rfl rfl rfl H.c (by omega) rfl (by kernel_rfl) rfl ?_;intro w4 P4;have H4:=H.put P4.rc P4.off;clear H;have H:=H4;clear H4 P4)
  | (refine wpList_load_rc _ rfl (.tmp 3) rfl rfl H.c ?_)
  | (refine wpList_at (Op.store 54 (.tmp 2) (.tmp 69)) rfl ?_;refine wpList_put_rc (s':={kS s.kd with ep:=s.ep,nd:=s.nd}) (I':=nilV) (T':=nilV) _ rfl (.tmp 2) (.tmp 69) rfl rfl rfl H.r rfl rfl ?_;intro w9 P9))
 obtain⟨g1,g2⟩:=H.ret P9
 refine bodyPost_ret (results_rc1 rfl _ _ rfl g1) rfl ?_
 exact⟨rfl,g2⟩
set_option maxHeartbeats 1000000 in
theorem clean_o (h1:s.kd≠1) (h2:s.kd≠2) (h3:s.kd≠3) (h4:s.kd≠4) (h5:s.kd≠5) (h6:s.kd≠6) (h7:s.kd≠7) (h8:s.kd≠8) (h9:s.kd≠9) (h10:s.kd≠10):Calls Tryz.prog 79 #[.agg (s.A I T)] w fun e w'=>e=.returned (.agg ((kS s.kd:Sc).A nilV nilV))/\Below w.heap.size w w':=by
 have e1:(s.kd==1)=false:=by simpa using h1
 have e2:(s.kd==2)=false:=by simpa using h2
 have e3:(s.kd==3)=false:=by simpa using h3
 have e4:(s.kd==4)=false:=by simpa using h4
 have e5:(s.kd==5)=false:=by simpa using h5
 have e6:(s.kd==6)=false:=by simpa using h6
 have e7:(s.kd==7)=false:=by simpa using h7
 have e8:(s.kd==8)=false:=by simpa using h8
 have e9:(s.kd==9)=false:=by simpa using h9
 have e10:(s.kd==10)=false:=by simpa using h10
 clear h1 h2 h3 h4 h5 h6 h7 h8 h9 h10
 go_enter Tryz.func79,Tryz.ntmps79
 go_wp2_with (first
  | (refine wpList_box_rc (s:=s) (I:=_) (T:=_) _ rfl _ rfl rfl ?_;intro w0 b0 N0)
  | (have:=N1;refine wpList_new_rc _ rfl rfl ?_;intro w2 b2 N2;have k00:=((N0.rc.below N1.below).below N2.below).c0)
  | (refine wpList_new_rc _ rfl rfl ?_;intro w1 b1 N1;have k00:=(N0.rc.below N1.below).c0)
  | (refine wpList_at (Op.store 54 (.tmp 3) (.tmp 6)) rfl ?_;refine wpList_put_rc (s':=kS s.kd) (I':=nilV) (T':=nilV) _ rfl (.tmp 3) (.tmp 6) rfl rfl rfl N2.rc rfl rfl ?_;intro w3 P3;have H:=Cl3.mk' N0 N1 N2 P3;clear N0 N1 N2 P3 k00;have k00:=H.p.c0)
  | (refine wpList_load_rc _ rfl (.tmp 3) rfl rfl H.c ?_)
  | (refine wpList_at (Op.store 54 (.tmp 2) (.tmp 69)) rfl ?_;refine wpList_put_rc (s':=kS s.kd) (I':=nilV) (T':=nilV) _ rfl (.tmp 2) (.tmp 69) rfl rfl rfl H.r rfl rfl ?_;intro w9 P9))
 obtain⟨g1,g2⟩:=H.ret P9
 refine bodyPost_ret (results_rc1 rfl _ _ rfl g1) rfl ?_
 exact⟨rfl,g2⟩
set_option maxHeartbeats 1000000 in
theorem clean_3 (hk:s.kd=3):Calls Tryz.prog 79 #[.agg (s.A I T)] w fun e w'=>e=.returned (.agg ((copyS {kS s.kd with tx:=s.tx,pv:=s.pv} s:Sc).A nilV nilV))/\Below w.heap.size w w':=by
 have e1:(s.kd==1)=false:=by rw[hk];rfl
 have e2:(s.kd==2)=false:=by rw[hk];rfl
 have e3:(s.kd==3)=true:=by rw[hk];rfl
 have ha:actOf s=actOf {kS s.kd with tx:=s.tx,pv:=s.pv}:=by simp[actOf,kS,hk]
 clear hk
 go_enter Tryz.func79,Tryz.ntmps79
 go_wp2_with (first
  | (refine wpList_box_rc (s:=s) (I:=_) (T:=_) _ rfl _ rfl rfl ?_;intro w0 b0 N0)
  | (have:=N1;refine wpList_new_rc _ rfl rfl ?_;intro w2 b2 N2;have k00:=((N0.rc.below N1.below).below N2.below).c0)
  | (refine wpList_new_rc _ rfl rfl ?_;intro w1 b1 N1;have k00:=(N0.rc.below N1.below).c0)
  | (refine wpList_at (Op.store 54 (.tmp 3) (.tmp 6)) rfl ?_;refine wpList_put_rc (s':=kS s.kd) (I':=nilV) (T':=nilV) _ rfl (.tmp 3) (.tmp 6) rfl rfl rfl N2.rc rfl rfl ?_;intro w3 P3;have H:=Cl3.mk' N0 N1 N2 P3;clear N0 N1 N2 P3 k00;have k00:=H.p.c0;have q0:=H.c.f;have p1:=H.p.c1;have c1:=H.c.c1;have p2:=H.p.c2;have c2:=H.c.c2)
  | (refine wpList_at (Op.store 3 (.tmp 26) (.tmp 23)) rfl ?_;refine wpList_fput (s':={kS s.kd with tx:=s.tx}) (I':=nilV) (T':=nilV) _ rfl 3 (.tmp 26) (.tmp 23) rfl rfl rfl H.c (by omega) rfl (by kernel_rfl) rfl ?_;intro w4 P4;have H4:=H.put P4.rc P4.off;clear H;have H:=H4;clear H4 P4)
  | (refine wpList_at (Op.store 3 (.tmp 27) (.tmp 25)) rfl ?_;refine wpList_fput (s':={kS s.kd with tx:=s.tx,pv:=s.pv}) (I':=nilV) (T':=nilV) _ rfl 3 (.tmp 27) (.tmp 25) rfl rfl rfl H.c (by omega) rfl (by kernel_rfl) rfl ?_;intro w4 P4;have H4:=H.put P4.rc P4.off;clear H;have H:=H4;clear H4 P4)
  | (go_at_call 104;refine(copy_any H.c H.p (fun e=>H.n02 e.symm) ha).mono ?_;rintro e w5 ⟨rfl,r5,o5⟩;have H5:=H.put r5 o5;clear H;have H:=H5;clear H5 r5 o5)
  | (refine wpList_load_rc _ rfl (.tmp 3) rfl rfl H.c ?_)
  | (refine wpList_at (Op.store 54 (.tmp 2) (.tmp 69)) rfl ?_;refine wpList_put_rc (s':=copyS {kS s.kd with tx:=s.tx,pv:=s.pv} s) (I':=nilV) (T':=nilV) _ rfl (.tmp 2) (.tmp 69) rfl rfl rfl H.r rfl rfl ?_;intro w9 P9))
 obtain⟨g1,g2⟩:=H.ret P9
 refine bodyPost_ret (results_rc1 rfl _ _ rfl g1) rfl ?_
 exact⟨rfl,g2⟩
set_option maxHeartbeats 1000000 in
theorem clean_4 (hk:s.kd=4):Calls Tryz.prog 79 #[.agg (s.A I T)] w fun e w'=>e=.returned (.agg ((copyS {kS s.kd with tx:=s.tx,pv:=s.pv} s:Sc).A nilV nilV))/\Below w.heap.size w w':=by
 have e1:(s.kd==1)=false:=by rw[hk];rfl
 have e2:(s.kd==2)=false:=by rw[hk];rfl
 have e3:(s.kd==3)=false:=by rw[hk];rfl
 have e4:(s.kd==4)=true:=by rw[hk];rfl
 have ha:actOf s=actOf {kS s.kd with tx:=s.tx,pv:=s.pv}:=by simp[actOf,kS,hk]
 clear hk
 go_enter Tryz.func79,Tryz.ntmps79
 go_wp2_with (first
  | (refine wpList_box_rc (s:=s) (I:=_) (T:=_) _ rfl _ rfl rfl ?_;intro w0 b0 N0)
  | (have:=N1;refine wpList_new_rc _ rfl rfl ?_;intro w2 b2 N2;have k00:=((N0.rc.below N1.below).below N2.below).c0)
  | (refine wpList_new_rc _ rfl rfl ?_;intro w1 b1 N1;have k00:=(N0.rc.below N1.below).c0)
  | (refine wpList_at (Op.store 54 (.tmp 3) (.tmp 6)) rfl ?_;refine wpList_put_rc (s':=kS s.kd) (I':=nilV) (T':=nilV) _ rfl (.tmp 3) (.tmp 6) rfl rfl rfl N2.rc rfl rfl ?_;intro w3 P3;have H:=Cl3.mk' N0 N1 N2 P3;clear N0 N1 N2 P3 k00;have k00:=H.p.c0;have q0:=H.c.f;have p1:=H.p.c1;have c1:=H.c.c1;have p2:=H.p.c2;have c2:=H.c.c2)
  | (refine wpList_at (Op.store 3 (.tmp 26) (.tmp 23)) rfl ?_;refine wpList_fput (s':={kS s.kd with tx:=s.tx}) (I':=nilV) (T':=nilV) _ rfl 3 (.tmp 26) (.tmp 23) rfl rfl rfl H.c (by omega) rfl (by kernel_rfl) rfl ?_;intro w4 P4;have H4:=H.put P4.rc P4.off;clear H;have H:=H4;clear H4 P4)
  | (refine wpList_at (Op.store 3 (.tmp 27) (.tmp 25)) rfl ?_;refine wpList_fput (s':={kS s.kd with tx:=s.tx,pv:=s.pv}) (I':=nilV) (T':=nilV) _ rfl 3 (.tmp 27) (.tmp 25) rfl rfl rfl H.c (by omega) rfl (by kernel_rfl) rfl ?_;intro w4 P4;have H4:=H.put P4.rc P4.off;clear H;have H:=H4;clear H4 P4)
  | (go_at_call 104;refine(copy_any H.c H.p (fun e=>H.n02 e.symm) ha).mono ?_;rintro e w5 ⟨rfl,r5,o5⟩;have H5:=H.put r5 o5;clear H;have H:=H5;clear H5 r5 o5)
  | (refine wpList_load_rc _ rfl (.tmp 3) rfl rfl H.c ?_)
  | (refine wpList_at (Op.store 54 (.tmp 2) (.tmp 69)) rfl ?_;refine wpList_put_rc (s':=copyS {kS s.kd with tx:=s.tx,pv:=s.pv} s) (I':=nilV) (T':=nilV) _ rfl (.tmp 2) (.tmp 69) rfl rfl rfl H.r rfl rfl ?_;intro w9 P9))
 obtain⟨g1,g2⟩:=H.ret P9
 refine bodyPost_ret (results_rc1 rfl _ _ rfl g1) rfl ?_
 exact⟨rfl,g2⟩
set_option maxHeartbeats 1000000 in
theorem clean_5 (hk:s.kd=5):Calls Tryz.prog 79 #[.agg (s.A I T)] w fun e w'=>e=.returned (.agg ((copyS {kS s.kd with tx:=s.tx,pv:=s.pv} s:Sc).A nilV nilV))/\Below w.heap.size w w':=by
 have e1:(s.kd==1)=false:=by rw[hk];rfl
 have e2:(s.kd==2)=false:=by rw[hk];rfl
 have e3:(s.kd==3)=false:=by rw[hk];rfl
 have e4:(s.kd==4)=false:=by rw[hk];rfl
 have e5:(s.kd==5)=true:=by rw[hk];rfl
 have ha:actOf s=actOf {kS s.kd with tx:=s.tx,pv:=s.pv}:=by simp[actOf,kS,hk]
 clear hk
 go_enter Tryz.func79,Tryz.ntmps79
 go_wp2_with (first
  | (refine wpList_box_rc (s:=s) (I:=_) (T:=_) _ rfl _ rfl rfl ?_;intro w0 b0 N0)
  | (have:=N1;refine wpList_new_rc _ rfl rfl ?_;intro w2 b2 N2;have k00:=((N0.rc.below N1.below).below N2.below).c0)
  | (refine wpList_new_rc _ rfl rfl ?_;intro w1 b1 N1;have k00:=(N0.rc.below N1.below).c0)
  | (refine wpList_at (Op.store 54 (.tmp 3) (.tmp 6)) rfl ?_;refine wpList_put_rc (s':=kS s.kd) (I':=nilV) (T':=nilV) _ rfl (.tmp 3) (.tmp 6) rfl rfl rfl N2.rc rfl rfl ?_;intro w3 P3;have H:=Cl3.mk' N0 N1 N2 P3;clear N0 N1 N2 P3 k00;have k00:=H.p.c0;have q0:=H.c.f;have p1:=H.p.c1;have c1:=H.c.c1;have p2:=H.p.c2;have c2:=H.c.c2)
  | (refine wpList_at (Op.store 3 (.tmp 26) (.tmp 23)) rfl ?_;refine wpList_fput (s':={kS s.kd with tx:=s.tx}) (I':=nilV) (T':=nilV) _ rfl 3 (.tmp 26) (.tmp 23) rfl rfl rfl H.c (by omega) rfl (by kernel_rfl) rfl ?_;intro w4 P4;have H4:=H.put P4.rc P4.off;clear H;have H:=H4;clear H4 P4)
  | (refine wpList_at (Op.store 3 (.tmp 27) (.tmp 25)) rfl ?_;refine wpList_fput (s':={kS s.kd with tx:=s.tx,pv:=s.pv}) (I':=nilV) (T':=nilV) _ rfl 3 (.tmp 27) (.tmp 25) rfl rfl rfl H.c (by omega) rfl (by kernel_rfl) rfl ?_;intro w4 P4;have H4:=H.put P4.rc P4.off;clear H;have H:=H4;clear H4 P4)
  | (go_at_call 104;refine(copy_any H.c H.p (fun e=>H.n02 e.symm) ha).mono ?_;rintro e w5 ⟨rfl,r5,o5⟩;have H5:=H.put r5 o5;clear H;have H:=H5;clear H5 r5 o5)
  | (refine wpList_load_rc _ rfl (.tmp 3) rfl rfl H.c ?_)
  | (refine wpList_at (Op.store 54 (.tmp 2) (.tmp 69)) rfl ?_;refine wpList_put_rc (s':=copyS {kS s.kd with tx:=s.tx,pv:=s.pv} s) (I':=nilV) (T':=nilV) _ rfl (.tmp 2) (.tmp 69) rfl rfl rfl H.r rfl rfl ?_;intro w9 P9))
 obtain⟨g1,g2⟩:=H.ret P9
 refine bodyPost_ret (results_rc1 rfl _ _ rfl g1) rfl ?_
 exact⟨rfl,g2⟩
set_option maxHeartbeats 1000000 in
theorem clean_6 (hk:s.kd=6):Calls Tryz.prog 79 #[.agg (s.A I T)] w fun e w'=>e=.returned (.agg ((copyS {kS s.kd with tx:=s.tx,pv:=s.pv,nx:=s.nx,ac:=s.ac} s:Sc).A nilV nilV))/\Below w.heap.size w w':=by
 have e1:(s.kd==1)=false:=by rw[hk];rfl
 have e2:(s.kd==2)=false:=by rw[hk];rfl
 have e3:(s.kd==3)=false:=by rw[hk];rfl
 have e4:(s.kd==4)=false:=by rw[hk];rfl
 have e5:(s.kd==5)=false:=by rw[hk];rfl
 have e6:(s.kd==6)=true:=by rw[hk];rfl
 have ha:actOf s=actOf {kS s.kd with tx:=s.tx,pv:=s.pv,nx:=s.nx,ac:=s.ac}:=by simp[actOf,kS,hk]
 clear hk
 go_enter Tryz.func79,Tryz.ntmps79
 go_wp2_with (first
  | (refine wpList_box_rc (s:=s) (I:=_) (T:=_) _ rfl _ rfl rfl ?_;intro w0 b0 N0)
  | (have:=N1;refine wpList_new_rc _ rfl rfl ?_;intro w2 b2 N2;have k00:=((N0.rc.below N1.below).below N2.below).c0)
  | (refine wpList_new_rc _ rfl rfl ?_;intro w1 b1 N1;have k00:=(N0.rc.below N1.below).c0)
  | (refine wpList_at (Op.store 54 (.tmp 3) (.tmp 6)) rfl ?_;refine wpList_put_rc (s':=kS s.kd) (I':=nilV) (T':=nilV) _ rfl (.tmp 3) (.tmp 6) rfl rfl rfl N2.rc rfl rfl ?_;intro w3 P3;have H:=Cl3.mk' N0 N1 N2 P3;clear N0 N1 N2 P3 k00;have k00:=H.p.c0;have q0:=H.c.f;have p1:=H.p.c1;have c1:=H.c.c1;have p2:=H.p.c2;have c2:=H.c.c2;have p4:=H.p.c4;have c4:=H.c.c4;have p8:=H.p.c8;have c8:=H.c.c8)
  | (refine wpList_at (Op.store 3 (.tmp 39) (.tmp 32)) rfl ?_;refine wpList_fput (s':={kS s.kd with tx:=s.tx}) (I':=nilV) (T':=nilV) _ rfl 3 (.tmp 39) (.tmp 32) rfl rfl rfl H.c (by omega) rfl (by kernel_rfl) rfl ?_;intro w4 P4;have H4:=H.put P4.rc P4.off;clear H;have H:=H4;clear H4 P4)
  | (refine wpList_at (Op.store 3 (.tmp 40) (.tmp 34)) rfl ?_;refine wpList_fput (s':={kS s.kd with tx:=s.tx,pv:=s.pv}) (I':=nilV) (T':=nilV) _ rfl 3 (.tmp 40) (.tmp 34) rfl rfl rfl H.c (by omega) rfl (by kernel_rfl) rfl ?_;intro w4 P4;have H4:=H.put P4.rc P4.off;clear H;have H:=H4;clear H4 P4)
  | (refine wpList_at (Op.store 3 (.tmp 41) (.tmp 36)) rfl ?_;refine wpList_fput (s':={kS s.kd with tx:=s.tx,pv:=s.pv,nx:=s.nx}) (I':=nilV) (T':=nilV) _ rfl 3 (.tmp 41) (.tmp 36) rfl rfl rfl H.c (by omega) rfl (by kernel_rfl) rfl ?_;intro w4 P4;have H4:=H.put P4.rc P4.off;clear H;have H:=H4;clear H4 P4)
  | (refine wpList_at (Op.store 3 (.tmp 42) (.tmp 38)) rfl ?_;refine wpList_fput (s':={kS s.kd with tx:=s.tx,pv:=s.pv,nx:=s.nx,ac:=s.ac}) (I':=nilV) (T':=nilV) _ rfl 3 (.tmp 42) (.tmp 38) rfl rfl rfl H.c (by omega) rfl (by kernel_rfl) rfl ?_;intro w4 P4;have H4:=H.put P4.rc P4.off;clear H;have H:=H4;clear H4 P4)
  | (go_at_call 104;refine(copy_any H.c H.p (fun e=>H.n02 e.symm) ha).mono ?_;rintro e w5 ⟨rfl,r5,o5⟩;have H5:=H.put r5 o5;clear H;have H:=H5;clear H5 r5 o5)
  | (refine wpList_load_rc _ rfl (.tmp 3) rfl rfl H.c ?_)
  | (refine wpList_at (Op.store 54 (.tmp 2) (.tmp 69)) rfl ?_;refine wpList_put_rc (s':=copyS {kS s.kd with tx:=s.tx,pv:=s.pv,nx:=s.nx,ac:=s.ac} s) (I':=nilV) (T':=nilV) _ rfl (.tmp 2) (.tmp 69) rfl rfl rfl H.r rfl rfl ?_;intro w9 P9))
 obtain⟨g1,g2⟩:=H.ret P9
 refine bodyPost_ret (results_rc1 rfl _ _ rfl g1) rfl ?_
 exact⟨rfl,g2⟩
theorem im_fits {n:Nat} (h:n*24<=140737488351232):∀ i,Tryz.prog.info? 227=some i->(0+n)*i.bytes<=140737488351232:=fun i hi=>by
 have:=(show(Tryz.prog.info? 227).map (fun i=>i.bytes)=some 24 by kernel_rfl)
 rw[hi] at this
 have e:i.bytes=24:=by simpa using this
 rw[e,Nat.zero_add];exact h
theorem tb_fits {n:Nat} (h:n*16<=140737488351232):∀ i,Tryz.prog.info? 40=some i->(0+n)*i.bytes<=140737488351232:=fun i hi=>by
 have:=(show(Tryz.prog.info? 40).map (fun i=>i.bytes)=some 16 by kernel_rfl)
 rw[hi] at this
 have e:i.bytes=16:=by simpa using this
 rw[e,Nat.zero_add];exact h
set_option maxHeartbeats 1000000 in
theorem clean_1 {l:List Im} (hk:s.kd=1) (hI:SlI w I l) (hl:l.length*24<=140737488351232):Calls Tryz.prog 79 #[.agg (s.A I T)] w fun e w'=>∃ J,e=.returned (.agg ((kS s.kd).A J nilV))/\SlI w' J l/\Below w.heap.size w w':=by
 obtain⟨a,c,rfl,hcs,hnil,hle,_⟩:=hI.ex
 have e1:(s.kd==1)=true:=by rw[hk];rfl
 clear hk hI
 go_enter Tryz.func79,Tryz.ntmps79
 go_wp2_with (first
  | (refine wpList_box_rc (s:=s) (I:=_) (T:=_) _ rfl _ rfl rfl ?_;intro w0 b0 N0)
  | (have:=N1;refine wpList_new_rc _ rfl rfl ?_;intro w2 b2 N2;have k00:=((N0.rc.below N1.below).below N2.below).c0)
  | (refine wpList_new_rc _ rfl rfl ?_;intro w1 b1 N1;have k00:=(N0.rc.below N1.below).c0)
  | (refine wpList_at (Op.store 54 (.tmp 3) (.tmp 6)) rfl ?_;refine wpList_put_rc (s':=kS s.kd) (I':=nilV) (T':=nilV) _ rfl (.tmp 3) (.tmp 6) rfl rfl rfl N2.rc rfl rfl ?_;intro w3 P3;have H:=Cl3.mk' N0 N1 N2 P3;clear N0 N1 N2 P3 k00;have k00:=H.p.c0;have q0:=H.c.f;have p9:=H.p.c9;have c9:=H.c.c9;unfold nilV at c9)
  | (have lb2:=H.c.lt;have lb1:=H.r.lt;refine wpList_append_ownB two_im (B:=_) rfl (.tmp 13) (.tmp 15) rfl rfl (n:=0) (xs:=[]) rfl (Own.nil _ _ _) (Nat.le_refl _) rfl (encI_length l) hnil (hcs.below H.bel) (encI_ones l) (im_fits hl) ?_;intro a4 cap4 w4 O4 B4;have H4:=H.below B4;clear H;have H:=H4;clear H4;have F:=O4.frI l;clear O4)
  | (refine wpList_at (Op.store 52 (.tmp 17) (.tmp 16)) rfl ?_;refine wpList_fput (s':=kS s.kd) (I':=.slice a4 l.length cap4) (T':=nilV) _ rfl 52 (.tmp 17) (.tmp 16) rfl rfl rfl H.c (by omega) rfl (by kernel_rfl) rfl ?_;intro w4 P4;have F4:=F.off P4.off lb2;clear F;have F:=F4;clear F4;have H4:=H.put P4.rc P4.off;clear H;have H:=H4;clear H4 P4)
  | (refine wpList_load_rc _ rfl (.tmp 3) rfl rfl H.c ?_)
  | (refine wpList_at (Op.store 54 (.tmp 2) (.tmp 69)) rfl ?_;refine wpList_put_rc (s':=kS s.kd) (I':=.slice a4 l.length cap4) (T':=nilV) _ rfl (.tmp 2) (.tmp 69) rfl rfl rfl H.r rfl rfl ?_;intro w9 P9))
 obtain⟨g1,g2⟩:=H.ret P9
 refine bodyPost_ret (results_rc1 rfl _ _ rfl g1) rfl ?_
 exact⟨_,rfl,(F.off P9.off lb1).slI,g2⟩
set_option maxHeartbeats 1000000 in
theorem clean_2 {l:List Im} (hk:s.kd=2) (hI:SlI w I l) (hl:l.length*24<=140737488351232):Calls Tryz.prog 79 #[.agg (s.A I T)] w fun e w'=>∃ J,e=.returned (.agg ((kS s.kd).A J nilV))/\SlI w' J l/\Below w.heap.size w w':=by
 obtain⟨a,c,rfl,hcs,hnil,hle,_⟩:=hI.ex
 have e1:(s.kd==1)=false:=by rw[hk];rfl
 have e2:(s.kd==2)=true:=by rw[hk];rfl
 clear hk hI
 go_enter Tryz.func79,Tryz.ntmps79
 go_wp2_with (first
  | (refine wpList_box_rc (s:=s) (I:=_) (T:=_) _ rfl _ rfl rfl ?_;intro w0 b0 N0)
  | (have:=N1;refine wpList_new_rc _ rfl rfl ?_;intro w2 b2 N2;have k00:=((N0.rc.below N1.below).below N2.below).c0)
  | (refine wpList_new_rc _ rfl rfl ?_;intro w1 b1 N1;have k00:=(N0.rc.below N1.below).c0)
  | (refine wpList_at (Op.store 54 (.tmp 3) (.tmp 6)) rfl ?_;refine wpList_put_rc (s':=kS s.kd) (I':=nilV) (T':=nilV) _ rfl (.tmp 3) (.tmp 6) rfl rfl rfl N2.rc rfl rfl ?_;intro w3 P3;have H:=Cl3.mk' N0 N1 N2 P3;clear N0 N1 N2 P3 k00;have k00:=H.p.c0;have q0:=H.c.f;have p9:=H.p.c9;have c9:=H.c.c9;unfold nilV at c9)
  | (have lb2:=H.c.lt;have lb1:=H.r.lt;refine wpList_append_ownB two_im (B:=_) rfl (.tmp 13) (.tmp 15) rfl rfl (n:=0) (xs:=[]) rfl (Own.nil _ _ _) (Nat.le_refl _) rfl (encI_length l) hnil (hcs.below H.bel) (encI_ones l) (im_fits hl) ?_;intro a4 cap4 w4 O4 B4;have H4:=H.below B4;clear H;have H:=H4;clear H4;have F:=O4.frI l;clear O4)
  | (refine wpList_at (Op.store 52 (.tmp 17) (.tmp 16)) rfl ?_;refine wpList_fput (s':=kS s.kd) (I':=.slice a4 l.length cap4) (T':=nilV) _ rfl 52 (.tmp 17) (.tmp 16) rfl rfl rfl H.c (by omega) rfl (by kernel_rfl) rfl ?_;intro w4 P4;have F4:=F.off P4.off lb2;clear F;have F:=F4;clear F4;have H4:=H.put P4.rc P4.off;clear H;have H:=H4;clear H4 P4)
  | (refine wpList_load_rc _ rfl (.tmp 3) rfl rfl H.c ?_)
  | (refine wpList_at (Op.store 54 (.tmp 2) (.tmp 69)) rfl ?_;refine wpList_put_rc (s':=kS s.kd) (I':=.slice a4 l.length cap4) (T':=nilV) _ rfl (.tmp 2) (.tmp 69) rfl rfl rfl H.r rfl rfl ?_;intro w9 P9))
 obtain⟨g1,g2⟩:=H.ret P9
 refine bodyPost_ret (results_rc1 rfl _ _ rfl g1) rfl ?_
 exact⟨_,rfl,(F.off P9.off lb1).slI,g2⟩
set_option maxHeartbeats 1000000 in
theorem clean_9 {l:List Tb} (hk:s.kd=9) (hI:SlT w T l) (hl:l.length*16<=140737488351232):Calls Tryz.prog 79 #[.agg (s.A I T)] w fun e w'=>∃ J,e=.returned (.agg ((kS s.kd).A nilV J))/\SlT w' J l/\Below w.heap.size w w':=by
 obtain⟨a,c,rfl,hcs,hnil,hle,_⟩:=hI.ex
 have e1:(s.kd==1)=false:=by rw[hk];rfl
 have e2:(s.kd==2)=false:=by rw[hk];rfl
 have e3:(s.kd==3)=false:=by rw[hk];rfl
 have e4:(s.kd==4)=false:=by rw[hk];rfl
 have e5:(s.kd==5)=false:=by rw[hk];rfl
 have e6:(s.kd==6)=false:=by rw[hk];rfl
 have e7:(s.kd==7)=false:=by rw[hk];rfl
 have e8:(s.kd==8)=false:=by rw[hk];rfl
 have e9:(s.kd==9)=true:=by rw[hk];rfl
 clear hk hI
 go_enter Tryz.func79,Tryz.ntmps79
 go_wp2_with (first
  | (refine wpList_box_rc (s:=s) (I:=_) (T:=_) _ rfl _ rfl rfl ?_;intro w0 b0 N0)
  | (have:=N1;refine wpList_new_rc _ rfl rfl ?_;intro w2 b2 N2;have k00:=((N0.rc.below N1.below).below N2.below).c0)
  | (refine wpList_new_rc _ rfl rfl ?_;intro w1 b1 N1;have k00:=(N0.rc.below N1.below).c0)
  | (refine wpList_at (Op.store 54 (.tmp 3) (.tmp 6)) rfl ?_;refine wpList_put_rc (s':=kS s.kd) (I':=nilV) (T':=nilV) _ rfl (.tmp 3) (.tmp 6) rfl rfl rfl N2.rc rfl rfl ?_;intro w3 P3;have H:=Cl3.mk' N0 N1 N2 P3;clear N0 N1 N2 P3 k00;have k00:=H.p.c0;have q0:=H.c.f;have p10:=H.p.c10;have c10:=H.c.c10;unfold nilV at c10)
  | (have lb2:=H.c.lt;have lb1:=H.r.lt;refine wpList_append_ownB two_tb (B:=_) rfl (.tmp 56) (.tmp 58) rfl rfl (n:=0) (xs:=[]) rfl (Own.nil _ _ _) (Nat.le_refl _) rfl (encT_length l) hnil (hcs.below H.bel) (encT_ones l) (tb_fits hl) ?_;intro a4 cap4 w4 O4 B4;have H4:=H.below B4;clear H;have H:=H4;clear H4;have F:=O4.frT l;clear O4)
  | (refine wpList_at (Op.store 35 (.tmp 60) (.tmp 59)) rfl ?_;refine wpList_fput (s':=kS s.kd) (I':=nilV) (T':=.slice a4 l.length cap4) _ rfl 35 (.tmp 60) (.tmp 59) rfl rfl rfl H.c (by omega) rfl (by kernel_rfl) rfl ?_;intro w4 P4;have F4:=F.off P4.off lb2;clear F;have F:=F4;clear F4;have H4:=H.put P4.rc P4.off;clear H;have H:=H4;clear H4 P4)
  | (refine wpList_load_rc _ rfl (.tmp 3) rfl rfl H.c ?_)
  | (refine wpList_at (Op.store 54 (.tmp 2) (.tmp 69)) rfl ?_;refine wpList_put_rc (s':=kS s.kd) (I':=nilV) (T':=.slice a4 l.length cap4) _ rfl (.tmp 2) (.tmp 69) rfl rfl rfl H.r rfl rfl ?_;intro w9 P9))
 obtain⟨g1,g2⟩:=H.ret P9
 refine bodyPost_ret (results_rc1 rfl _ _ rfl g1) rfl ?_
 exact⟨_,rfl,(F.off P9.off lb1).slT,g2⟩
end
theorem clean_any {w:World} {v:Value} {m:Rm} (h:RecV w v m) (hi:m.im.length*24<=140737488351232) (ht:m.tb.length*16<=140737488351232):Calls Tryz.prog 79 #[v] w fun e w'=>(∃ v',e=.returned v'/\RecV w' v' (cleanM m))/\Below w.heap.size w w':=by
 obtain⟨s,l,g⟩:=m
 obtain⟨I,T,rfl,hI,hT⟩:=h.ex
 dsimp only at hI hT hi ht
 by_cases h1:s.kd=1
 ·refine(clean_1 h1 hI hi).mono ?_
  rintro e w' ⟨J,rfl,hJ,hb⟩
  refine⟨⟨_,rfl,⟨J,nilV,?_,?_,?_⟩⟩,hb⟩
  ·simp[cleanM,cleanS,h1,kS,zS]
  ·simpa[cleanM,h1] using hJ
  ·simpa[cleanM,h1] using SlT.nil w'
 by_cases h2:s.kd=2
 ·refine(clean_2 h2 hI hi).mono ?_
  rintro e w' ⟨J,rfl,hJ,hb⟩
  refine⟨⟨_,rfl,⟨J,nilV,?_,?_,?_⟩⟩,hb⟩
  ·simp[cleanM,cleanS,h2,kS,zS]
  ·simpa[cleanM,h2] using hJ
  ·simpa[cleanM,h2] using SlT.nil w'
 by_cases h9:s.kd=9
 ·refine(clean_9 h9 hT ht).mono ?_
  rintro e w' ⟨J,rfl,hJ,hb⟩
  refine⟨⟨_,rfl,⟨nilV,J,?_,?_,?_⟩⟩,hb⟩
  ·simp[cleanM,cleanS,h9,kS,zS]
  ·simpa[cleanM,h9] using SlI.nil w'
  ·simpa[cleanM,h9] using hJ
 have fin:∀ (w':World) (c:Sc),cleanS s=c->RecV w' (.agg (c.A nilV nilV)) (cleanM ⟨s,l,g⟩):=fun w' c hc=>by
  refine⟨nilV,nilV,?_,?_,?_⟩
  ·simp[cleanM,hc]
  ·simpa[cleanM,h1,h2] using SlI.nil w'
  ·simpa[cleanM,h9] using SlT.nil w'
 by_cases h3:s.kd=3
 ·refine(clean_3 h3).mono ?_
  rintro e w' ⟨rfl,hb⟩
  exact⟨⟨_,rfl,fin w' _ (by simp[cleanS,h3,kS,zS,copyS,actOf])⟩,hb⟩
 by_cases h4:s.kd=4
 ·refine(clean_4 h4).mono ?_
  rintro e w' ⟨rfl,hb⟩
  exact⟨⟨_,rfl,fin w' _ (by simp[cleanS,h4,kS,zS,copyS,actOf])⟩,hb⟩
 by_cases h5:s.kd=5
 ·refine(clean_5 h5).mono ?_
  rintro e w' ⟨rfl,hb⟩
  exact⟨⟨_,rfl,fin w' _ (by simp[cleanS,h5,kS,zS,copyS,actOf])⟩,hb⟩
 by_cases h6:s.kd=6
 ·refine(clean_6 h6).mono ?_
  rintro e w' ⟨rfl,hb⟩
  exact⟨⟨_,rfl,fin w' _ (by simp[cleanS,h6,kS,zS,copyS,actOf])⟩,hb⟩
 by_cases h7:s.kd=7
 ·refine(clean_7 h7).mono ?_
  rintro e w' ⟨rfl,hb⟩
  exact⟨⟨_,rfl,fin w' _ (by simp[cleanS,h7,kS,zS])⟩,hb⟩
 by_cases h8:s.kd=8
 ·refine(clean_8 h8).mono ?_
  rintro e w' ⟨rfl,hb⟩
  exact⟨⟨_,rfl,fin w' _ (by simp[cleanS,h8,kS,zS])⟩,hb⟩
 by_cases h10:s.kd=10
 ·refine(clean_10 h10).mono ?_
  rintro e w' ⟨rfl,hb⟩
  exact⟨⟨_,rfl,fin w' _ (by simp[cleanS,h10,kS,zS])⟩,hb⟩
 ·refine(clean_o h1 h2 h3 h4 h5 h6 h7 h8 h9 h10).mono ?_
  rintro e w' ⟨rfl,hb⟩
  exact⟨⟨_,rfl,fin w' _ (by simp[cleanS,h1,h2,h3,h4,h5,h6,h7,h8,h9,h10,kS,zS])⟩,hb⟩
structure Small (m:Rm):Prop where
 im:m.im.length*24<=140737488351232
 tb:m.tb.length*16<=140737488351232
 t:∀ p∈m.im,p.2.size<=9223372036854775807
 ky:m.s.ky.size<=9223372036854775807
 ol:m.s.ol.size<=9223372036854775807
 nw:m.s.nw.size<=9223372036854775807
theorem Small.clean {m:Rm} (h:Small m):Small (cleanM m):=by
 obtain⟨s,l,g⟩:=m
 have h1:=h.im
 have h2:=h.tb
 have h3:=h.t
 have h4:=h.ky
 have h5:=h.ol
 have h6:=h.nw
 dsimp only at h1 h2 h3 h4 h5 h6
 have z:(⟨#[]⟩:ByteArray).size<=9223372036854775807:=Nat.zero_le _
 refine⟨?_,?_,?_,?_,?_,?_⟩
 ·unfold cleanM;dsimp only;split
  ·exact h1
  ·exact Nat.zero_le _
 ·unfold cleanM;dsimp only;split
  ·exact h2
  ·exact Nat.zero_le _
 ·unfold cleanM;dsimp only;split
  ·exact h3
  ·intro p hp;cases hp
 ·unfold cleanM cleanS;dsimp only;repeat' split
  all_goals assumption
 ·unfold cleanM cleanS;dsimp only;repeat' split
  all_goals assumption
 ·unfold cleanM cleanS;dsimp only;repeat' split
  all_goals assumption
structure Fine (m:Rm):Prop where
 k1:1<=m.s.kd
 k2:m.s.kd<=10
 f:formed m=true
 ky:m.s.ky.size<=16
 ol:m.s.ol.size<=32
 nw:m.s.nw.size<=32
theorem fine_of {m:Rm} (h:refM m=0):Fine m:=by
 unfold refM at h
 split at h
 ·cases h
 ·split at h
  ·cases h
  ·split at h
   ·cases h
   ·split at h
    ·cases h
    ·rename_i h1 h2 h3 h4
     exact⟨by omega,by omega,by simpa using h2,by omega,by omega,by omega⟩
theorem Fine.whole {m:Rm} (h:Fine m) (hk:m.s.kd=1∨m.s.kd=2):whole m.im=true:=by
 have f:=h.f
 unfold formed at f
 rcases hk with hk |hk
 ·rw[if_pos hk] at f
  simpa using (by simpa using f:m.im.length=1/\Go.Proofs.YtjlhohljkedbbaaGreat.whole m.im=true).2
 ·rw[if_neg (by omega),if_pos hk] at f
  exact f
theorem Fine.texts {m:Rm} (h:Fine m) (hk:m.s.kd=1∨m.s.kd=2):∀ p∈m.im,p.2.size<=1000:=by
 have f:=h.whole hk
 intro p hp
 have:=(List.all_eq_true.1 f) p hp
 simp at this
 omega
theorem laid_any {w:World} {v:Value} {m:Rm} (h:RecV w v m) (hs:Small m) (hf:Fine m):Calls Tryz.prog 103 #[v] w fun r w'=>r=.returned (.tuple #[.string (laidM m).1,.int .i64 (laidM m).2])/\Below w.heap.size w w':=by
 obtain⟨I,T,rfl,hI,hT⟩:=h.ex
 have hk1:=hf.k1
 have hk2:=hf.k2
 have hy:=hf.ky
 have ho:=hf.ol
 have hw:=hf.nw
 have hx:=hf.texts
 obtain⟨s,l,g⟩:=m
 have hl:=hs.im
 have hg:=hs.tb
 dsimp only at *
 have hl2:l.length<=10000000000000:=by omega
 have hg2:g.length<=10000000000000:=by omega
 have hk:s.kd=1∨s.kd=2∨s.kd=3∨s.kd=4∨s.kd=5∨s.kd=6∨s.kd=7∨s.kd=8∨s.kd=9∨s.kd=10:=by omega
 unfold laidM laidF
 dsimp only
 rcases hk with hk |hk |hk |hk |hk |hk |hk |hk |hk |hk
 ·obtain⟨a,c,rfl,hcs,_⟩:=hI.ex
  rw[if_pos (by omega)]
  exact laid_1 hk hl2 hcs (hx (by omega))
 ·obtain⟨a,c,rfl,hcs,_⟩:=hI.ex
  rw[if_pos (by omega)]
  exact laid_2 hk hl2 hcs (hx (by omega))
 ·rw[if_neg (by omega),if_pos (by omega)]
  exact laid_3 hk (by omega) (by omega) (by omega)
 ·rw[if_neg (by omega),if_pos (by omega)]
  exact laid_4 hk (by omega) (by omega) (by omega)
 ·rw[if_neg (by omega),if_pos (by omega)]
  exact laid_5 hk (by omega) (by omega) (by omega)
 ·rw[if_neg (by omega),if_neg (by omega),if_pos (by omega)]
  exact laid_6 hk (by omega) (by omega) (by omega)
 ·rw[if_neg (by omega),if_neg (by omega),if_neg (by omega),if_pos (by omega)]
  exact laid_7 hk
 ·rw[if_neg (by omega),if_neg (by omega),if_neg (by omega),if_pos (by omega)]
  exact laid_8 hk
 ·obtain⟨a,c,rfl,hcs,_⟩:=hT.ex
  rw[if_neg (by omega),if_neg (by omega),if_neg (by omega),if_neg (by omega),if_pos (by omega)]
  exact laid_9 hk hg2 hcs
 ·rw[if_neg (by omega),if_neg (by omega),if_neg (by omega),if_neg (by omega),if_neg (by omega),if_pos (by omega)]
  exact laid_10 hk
theorem laidM_size {m:Rm} (hs:Small m):(laidM m).1.size<=100000000:=by
 have hl:=hs.im
 have hg:=hs.tb
 have z0:((⟨#[]⟩:ByteArray),(0:Int)).1.size=0:=rfl
 have z1:=stepW_size (⟨#[]⟩,0) m.s.kd 1
 unfold laidM laidF
 dsimp only
 repeat' split
 ·have z2:=stepW_size (stepW (⟨#[]⟩,0) m.s.kd 1) m.im.length 1
  rcases Nat.lt_or_ge 255 m.im.length with h2 |h2
  ·obtain⟨q1,q2⟩:=many_err (bare0.stepW m.s.kd 1) h2
   rw[layI_err q1,q2];omega
  ·have z3:=layI_size m.im (stepW (stepW (⟨#[]⟩,0) m.s.kd 1) m.im.length 1)
   omega
 ·have z2:=layP_size [m.s.tx,m.s.pv] (stepW (⟨#[]⟩,0) m.s.kd 1)
  have z3:=layC_size m.s (layP [m.s.tx,m.s.pv] (stepW (⟨#[]⟩,0) m.s.kd 1))
  simp only[List.length_cons,List.length_nil] at z2
  omega
 ·have z2:=layP_size [m.s.tx,m.s.pv,m.s.nx] (stepW (⟨#[]⟩,0) m.s.kd 1)
  have z4:=stepW_size (layP [m.s.tx,m.s.pv,m.s.nx] (stepW (⟨#[]⟩,0) m.s.kd 1)) m.s.ac 1
  have z3:=layC_size m.s (stepW (layP [m.s.tx,m.s.pv,m.s.nx] (stepW (⟨#[]⟩,0) m.s.kd 1)) m.s.ac 1)
  simp only[List.length_cons,List.length_nil] at z2
  omega
 ·have z2:=layP_size [m.s.tx,m.s.pv] (stepW (⟨#[]⟩,0) m.s.kd 1)
  simp only[List.length_cons,List.length_nil] at z2
  omega
 ·have z2:=stepW_size (stepW (⟨#[]⟩,0) m.s.kd 1) m.tb.length 1
  rcases Nat.lt_or_ge 255 m.tb.length with h2 |h2
  ·obtain⟨q1,q2⟩:=many_err (bare0.stepW m.s.kd 1) h2
   rw[layB_err q1,q2];omega
  ·have z3:=layB_size m.tb (stepW (stepW (⟨#[]⟩,0) m.s.kd 1) m.tb.length 1)
   omega
 ·have z2:=stepW_size (stepW (⟨#[]⟩,0) m.s.kd 1) m.s.ep 4
  have z3:=stepW_size (stepW (stepW (⟨#[]⟩,0) m.s.kd 1) m.s.ep 4) m.s.nd 1
  omega
 ·omega
set_option maxHeartbeats 1000000 in
theorem body_any {w:World} {v:Value} {m:Rm} (h:RecV w v m) (hs:Small m):Calls Tryz.prog 78 #[v] w fun r w'=>r=.returned (.tuple #[.string (bodyM m).1,.int .i64 (bodyM m).2])/\Below w.heap.size w w':=by
 have hv:=h
 obtain⟨I,T,rfl,hI,hT⟩:=h.ex
 have CR:Hid (∀ w',Below w.heap.size w w'->Calls Tryz.prog 102 #[.agg (m.s.A I T)] w' fun r w''=>r=.returned (.int .i64 (refM m))/\Below w'.heap.size w' w''):=fun w' hb=>by
  obtain⟨a,c,rfl,hcs,_⟩:=hI.ex
  exact refusalR_any (g:=m.tb) (by have:=hs.im;omega) (hcs.below hb) hs.t hs.ky hs.ol hs.nw
 by_cases hr:refM m=0
 ·have CL:Hid (∀ w',Below w.heap.size w w'->Calls Tryz.prog 103 #[.agg (m.s.A I T)] w' fun r w''=>r=.returned (.tuple #[.string (laidM m).1,.int .i64 (laidM m).2])/\Below w'.heap.size w' w''):=fun w' hb=>laid_any (hv.below hb) hs (fine_of hr)
  have hz:=laidM_size hs
  by_cases he:(laidM m).2=0
  ·by_cases hl:4096<(laidM m).1.size
   ·rw[bodyM_long hr he hl]
    rw[hr] at CR
    rw[he] at CL
    generalize (laidM m).1=Z at *
    clear hr he hv h hI hT hs
    go_enter Tryz.func78,Tryz.ntmps78
    go_wp2_with (first
     | (refine wpList_box_rc (s:=m.s) (I:=I) (T:=T) _ rfl _ rfl rfl ?_;intro w0 b0 N0;have R:=N0.rc)
     | (refine wpList_load_rc _ rfl _ rfl rfl R ?_)
     | (go_at_call 102;refine(CR.out _ N0.below).mono ?_;rintro e w1 ⟨rfl,b1⟩;have R1:=R.below b1;clear R;have R:=R1;clear R1)
     | (go_at_call 103;refine(CL.out _ (thn N0.below b1)).mono ?_;rintro e w2 ⟨rfl,b2⟩))
    go_ret2
    exact⟨rfl,thn (thn N0.below b1) b2⟩
   ·rw[bodyM_good hr he hl]
    rw[hr] at CR
    rw[he] at CL
    generalize (laidM m).1=Z at *
    clear hr he hv h hI hT hs
    go_enter Tryz.func78,Tryz.ntmps78
    go_wp2_with (first
     | (refine wpList_box_rc (s:=m.s) (I:=I) (T:=T) _ rfl _ rfl rfl ?_;intro w0 b0 N0;have R:=N0.rc)
     | (refine wpList_load_rc _ rfl _ rfl rfl R ?_)
     | (go_at_call 102;refine(CR.out _ N0.below).mono ?_;rintro e w1 ⟨rfl,b1⟩;have R1:=R.below b1;clear R;have R:=R1;clear R1)
     | (go_at_call 103;refine(CL.out _ (thn N0.below b1)).mono ?_;rintro e w2 ⟨rfl,b2⟩))
    go_ret2
    exact⟨rfl,thn (thn N0.below b1) b2⟩
  ·rw[bodyM_err hr he]
   rw[hr] at CR
   generalize (laidM m).1=Z at *
   generalize (laidM m).2=E at *
   have he':(E !=0)=true:=by simpa using he
   clear hr he hv h hI hT hs
   go_enter Tryz.func78,Tryz.ntmps78
   go_wp2_with (first
    | (refine wpList_box_rc (s:=m.s) (I:=I) (T:=T) _ rfl _ rfl rfl ?_;intro w0 b0 N0;have R:=N0.rc)
    | (refine wpList_load_rc _ rfl _ rfl rfl R ?_)
    | (go_at_call 102;refine(CR.out _ N0.below).mono ?_;rintro e w1 ⟨rfl,b1⟩;have R1:=R.below b1;clear R;have R:=R1;clear R1)
    | (go_at_call 103;refine(CL.out _ (thn N0.below b1)).mono ?_;rintro e w2 ⟨rfl,b2⟩))
   go_ret2
   exact⟨rfl,thn (thn N0.below b1) b2⟩
 ·rw[bodyM_ref hr]
  generalize refM m=E at *
  have he':(E !=0)=true:=by simpa using hr
  clear hr hv h hI hT hs
  go_enter Tryz.func78,Tryz.ntmps78
  go_wp2_with (first
   | (refine wpList_box_rc (s:=m.s) (I:=I) (T:=T) _ rfl _ rfl rfl ?_;intro w0 b0 N0;have R:=N0.rc)
   | (refine wpList_load_rc _ rfl _ rfl rfl R ?_)
   | (go_at_call 102;refine(CR.out _ N0.below).mono ?_;rintro e w1 ⟨rfl,b1⟩))
  go_ret2
  exact⟨rfl,thn N0.below b1⟩
def frameB (t:ByteArray):ByteArray:=Pk.beS t.size 2++Sm.sealV t
def frameM (m:Rm):ByteArray × Int:=if(bodyM (cleanM m)).2≠0 then(⟨#[]⟩,(bodyM (cleanM m)).2) else(frameB (bodyM (cleanM m)).1,0)
theorem put_len (t:ByteArray) (h:t.size<=4096) (w:World):Calls Tryz.prog 80 #[.string ⟨#[]⟩,.int .i64 (t.size:Int),.int .i64 2] w fun e w'=>e=.returned (.tuple #[.string (Pk.beS t.size 2),.int .i64 0])/\Below w.heap.size w w':=by
 have:=Pk.Put_any ⟨#[]⟩ (t.size:Int) 2 w (Nat.zero_le _)
 rw[Pk.putV_fits (by omega) (by rw[Pk.limI_2];omega)] at this
 dsimp only at this
 rw[Sm.nil_append] at this
 exact this
theorem sealV_size (t:ByteArray):(Sm.sealV t).size=4+t.size:=by unfold Sm.sealV;rw[ByteArray.size_append,Pk.beS_size]
theorem frameB_size (t:ByteArray):(frameB t).size=6+t.size:=by unfold frameB;rw[ByteArray.size_append,Pk.beS_size,sealV_size];omega
set_option maxHeartbeats 1000000 in
theorem Frame_any {w:World} {v:Value} {m:Rm} (h:RecV w v m) (hs:Small m):Calls Tryz.prog 50 #[v] w fun r w'=>r=.returned (.tuple #[.string (frameM m).1,.int .i64 (frameM m).2])/\Below w.heap.size w w':=by
 have hv:=h
 obtain⟨I,T,rfl,hI,hT⟩:=h.ex
 have CC:Hid (∀ w',Below w.heap.size w w'->Calls Tryz.prog 79 #[.agg (m.s.A I T)] w' fun e w''=>(∃ v',e=.returned v'/\RecV w'' v' (cleanM m))/\Below w'.heap.size w' w''):=fun w' hb=>clean_any (hv.below hb) hs.im hs.tb
 have CB:Hid (∀ w' v',RecV w' v' (cleanM m)->Calls Tryz.prog 78 #[v'] w' fun r w''=>r=.returned (.tuple #[.string (bodyM (cleanM m)).1,.int .i64 (bodyM (cleanM m)).2])/\Below w'.heap.size w' w''):=fun w' v' h'=>body_any h' hs.clean
 have hz:=bodyM_size (cleanM m)
 unfold frameM
 by_cases he:(bodyM (cleanM m)).2=0
 ·rw[if_neg (by simpa using he)]
  rw[he] at CB
  generalize (bodyM (cleanM m)).1=Z at *
  have CP:Hid (∀ w,Calls Tryz.prog 80 #[.string ⟨#[]⟩,.int .i64 (Z.size:Int),.int .i64 2] w fun e w'=>e=.returned (.tuple #[.string (Pk.beS Z.size 2),.int .i64 0])/\Below w.heap.size w w'):=fun w=>put_len Z hz w
  have CS:Hid (∀ w,Calls Tryz.prog 81 #[.string Z] w fun e w'=>e=.returned (.string (Sm.sealV Z))/\Below w.heap.size w w'):=fun w=>Sm.Seal_any Z w (by omega)
  have HF:Hid (frameB Z=Pk.beS Z.size 2++Sm.sealV Z):=by rfl
  have z1:(Pk.beS Z.size 2).size<=6:=by rw[Pk.beS_size];omega
  have z2:(Sm.sealV Z).size<=5000:=by rw[sealV_size];omega
  generalize frameB Z=F at *
  generalize Pk.beS Z.size 2=L at *
  generalize Sm.sealV Z=SZ at *
  clear he hv h hI hT hs
  go_enter Tryz.func50,Tryz.ntmps50
  go_wp2_with (first
   | (refine wpList_box_rc (s:=m.s) (I:=I) (T:=T) _ rfl _ rfl rfl ?_;intro w0 b0 N0)
   | (refine wpList_load_rc _ rfl _ rfl rfl N0.rc ?_)
   | (go_at_call 79;refine(CC.out _ N0.below).mono ?_;rintro e w1 ⟨⟨v',rfl,h1⟩,b1⟩)
   | (go_at_call 78;refine(CB.out _ _ h1).mono ?_;rintro e w2 ⟨rfl,b2⟩)
   | (go_at_call 80;refine(CP.out _).mono ?_;rintro e w3 ⟨rfl,b3⟩)
   | (go_at_call 81;refine(CS.out _).mono ?_;rintro e w4 ⟨rfl,b4⟩))
  go_ret2
  rw[HF.out]
  exact⟨rfl,thn (thn (thn (thn N0.below b1) b2) b3) b4⟩
 ·rw[if_pos he]
  generalize (bodyM (cleanM m)).1=Z at *
  generalize (bodyM (cleanM m)).2=E at *
  have he':(E !=0)=true:=by simpa using he
  clear he hv h hI hT hs
  go_enter Tryz.func50,Tryz.ntmps50
  go_wp2_with (first
   | (refine wpList_box_rc (s:=m.s) (I:=I) (T:=T) _ rfl _ rfl rfl ?_;intro w0 b0 N0)
   | (refine wpList_load_rc _ rfl _ rfl rfl N0.rc ?_)
   | (go_at_call 79;refine(CC.out _ N0.below).mono ?_;rintro e w1 ⟨⟨v',rfl,h1⟩,b1⟩)
   | (go_at_call 78;refine(CB.out _ _ h1).mono ?_;rintro e w2 ⟨rfl,b2⟩))
  go_ret2
  exact⟨rfl,thn (thn N0.below b1) b2⟩
end Go.Proofs.YtjlhohljkedbbaaGreat
