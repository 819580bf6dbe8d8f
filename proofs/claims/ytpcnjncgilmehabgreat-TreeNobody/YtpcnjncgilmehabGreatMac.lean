import Derived.Test.YtpcnjncgilmehabGreatMab
import Derived.Lib.BufferWrite
import Derived.Lib.LazyBuf
import Derived.Lib.SlBytesRow
import Derived.Deep.OwnRows
import Derived.Deep.RegionHeldLaw
import Derived.Deep.RegionHeld3
set_option linter.unusedVariables false
set_option linter.unusedSimpArgs false
set_option maxRecDepth 100000
namespace Go.Proofs.YtpcnjncgilmehabGreat.Pk
open Go.RowKit
theorem step_copy_row {P:Program} {ops:Array Oper} {o:Oper} {a:Act} {w:World} {K:Act->World->Prop} {Q:Exit->Act->World->Prop} {E:Prop}
  (hg:o.guard=none) (d x:Operand) (dT sT:TypeId) (hop:o.op=Op.call {callee:=Callee.builtin Builtin.copy,args:=#[d,x],argTypes:=#[dT,sT]})
  (elem:TypeId) (hu:P.underlying dT=some (.slice elem)) (hs:(P.info? elem).map (·.size)=some 1)
  (g off dLen dCap:Nat) (hd:a.eval d=.slice (some ⟨g,off,none⟩) dLen dCap) (t:ByteArray) (hx:a.eval x=.string t) (cur:Array Value) (ty:TypeId)
  (hgk:w.heap[g]?=some (.cells cur ty (0,0))) (hle:t.size<=dLen) (hfit:off+t.size<=cur.size)
  (R:Array Value) (hR:R=(cur.toList.take off++Lib.byteCells t.data.toList++cur.toList.drop (off+t.size)).toArray)
  (hK:K (a.put o.dst (goInt t.size)) (w.setRow g R)) :
  if Region.wanted o (yielded ops a.tmps)=true then Oper.wp P o a w K Q else E:=by
 subst hR
 have hw:Region.wanted o (yielded ops a.tmps)=true:=by simp[Region.wanted,hg]
 rw[if_pos hw]
 have hrun:=Lib.run_copy_row_string (P:=P) w dT sT o.type elem g off dLen dCap t cur ty hu hs hgk hle hfit
 unfold Oper.wp
 simp[execOp,hop,resolve,invoke,builtin,hd,hx,hrun,Result.andThen]
 rw[List.append_assoc] at hK
 exact hK
set_option maxHeartbeats 1000000 in
theorem All_any (b:Nat) (all:ByteArray) (w:World) (h:WrIs w b all 0) (hsz:all.size<=140737488351232) :
  Calls Tryz.prog 211 #[.pointer (some ⟨b,0,none⟩)] w fun r w'=>r=.returned (.tuple #[.string all,.int .i64 0])/\Below w.heap.size w w':=by
 obtain⟨p,l,h1,h2,h3⟩:=h
 have H3:Hid _:=h3
 clear h3
 have hc0:=h1.c0
 have hc1:=h1.c1
 have hc2:=h1.c2
 have hlt:=h1.lt
 have hmk:∀ w,(Instr.makeSlice 80 (.int .i64 (all.size:Int)) (.int .i64 (all.size:Int))).run Tryz.prog w=.ok (.slice (some ⟨w.heap.size,0,none⟩) all.size all.size) (w.alloc (.cells (madeCells #[.int .u8 0] all.size) 5)) :=
  fun w=>run_make_row' 80 5 (.int .u8 0) 1 Tryz.underlying80 (by kernel_rfl) rfl .i64 .i64 all.size (by omega) (by omega) w
 go_enter Tryz.func211,Tryz.ntmps211
 go_wp2
 go_loopw [5,6] (fun en pp wr=>∃ (r:List ByteArray) (q:Option Addr) (C:Array Value) (suf:ByteArray),pp=.pointer q/\Chain b w q r/\en=.int .i64 (joinR r).size/\wr.heap[w.heap.size]?=some (.cells C 5)/\C.size=all.size/\Hid (joinR r++suf=all)/\C.toList.drop (joinR r).size=Lib.byteCells suf.data.toList/\Below w.heap.size w wr) (fun en _ _=>(intOf en).toNat)
 case atStart =>
  refine⟨l,p,_,⟨#[]⟩,rfl,h2,by rw[H3.out],(MapKept.heap_alloc w _).1,size_madeCells _ _,?_,?_,(Below.refl _ _).alloc (Nat.le_refl _) _⟩
  ·show joinR l++⟨#[]⟩=all
   rw[H3.out];apply ByteArray.ext;simp[ByteArray.data_append]
  ·rw[H3.out,List.drop_of_length_le (by simp[size_madeCells])];rfl
 case round =>
  obtain⟨r,q,C,suf,rfl,hch,rfl,hC,hCz,hall,hdrop,hbel⟩:=hrel
  cases r with
  | nil =>
   have hq:q=none:=hch
   subst hq
   have hn0:(joinR []).size=0:=rfl
   have hcv:(convert 80 9 (.slice (some ⟨w.heap.size,0,none⟩) all.size all.size)).run Tryz.prog wr=.ok (.string all) wr:=by
    refine Lib.run_convert_whole (P:=Tryz.prog) wr 80 5 9 Tryz.underlying80 Tryz.underlying5 Tryz.underlying9 w.heap.size 0 all (fun i hi=>?_) all.size
    have hsuf:suf=all:=by rw[← hall.out];apply ByteArray.ext;simp[joinR,ByteArray.data_append]
    rw[hsuf,hn0,List.drop_zero] at hdrop
    have hCi:C=(Lib.byteCells all.data.toList).toArray:=by rw[← hdrop]
    rw[Joins.cell_of_block hC,hCi]
    have hi':i<all.data.size:=hi
    simp[Lib.byteCells]
    exact⟨_,Array.getElem?_eq_getElem hi',rfl⟩
   go_wp2
   go_ret2
   exact⟨rfl,hbel⟩
  | cons t r =>
   obtain⟨c,p',rfl,hcb,hcl,hch0,ht,hch'⟩:=hch
   have hJ:(joinR (t ::r)).size=(joinR r).size+t.size:=by rw[joinR,ByteArray.size_append]
   have hN:(joinR r).size+t.size<=all.size:=by
    have:=congrArg ByteArray.size hall.out
    rw[ByteArray.size_append,hJ] at this
    omega
   have hcw:=(hbel.block c hcl).trans hch0
   have hk0:wr.cell? ⟨c,0,none⟩=some (.pointer p'):=by simp[World.cell?,hcw]
   have hk1:wr.cell? ⟨c,1,none⟩=some (.string t):=by simp[World.cell?,hcw]
   rw[hJ]
   generalize hn:(joinR r).size=n at *
   have hn1:(n:Int)<(all.size:Int):=by omega
   have HJ:Hid _:=hJ
   have HN:Hid _:=hn
   clear hJ hn
   rw[Int.natCast_add]
   have ht1:(t.size:Int)<=(all.size:Int):=by omega
   have hi5:(Tryz.prog.info? 5).map (·.size)=some 1:=by kernel_rfl
   have hle:t.size<=all.size-n:=by omega
   have hfit:n+t.size<=C.size:=by omega
   obtain⟨R,hR⟩:∃ R,R=(C.toList.take n++Lib.byteCells t.data.toList++C.toList.drop (n+t.size)).toArray:=⟨_,rfl⟩
   have HR:Hid _:=hR
   clear hR
   go_wp2
   go_region_held_law (fun w'=>w'.cell? ⟨c,1,none⟩=some (.string t)) (first |exact(cell_setRow_other _ _ _ _ (Nat.ne_of_lt hcl)).trans hk1 |go_keep) (first |(refine step_copy_row rfl (.tmp 46) (.tmp 50) 80 9 rfl 5 Tryz.underlying80 hi5 w.heap.size n (all.size-n) (all.size-n) ?_ t ?_ C 5 ?_ hle hfit R HR.out ?_;simp[Act.eval,Act.put];simp[Act.eval,Act.put];exact hC))
   have hk0':(wr.drew.setRow w.heap.size R).cell? ⟨c,0,none⟩=some (.pointer p'):=(cell_setRow_other _ _ _ _ (Nat.ne_of_lt hcl)).trans hk0
   go_wp2
   go_roundw
   case rel =>
    refine⟨r,p',R,t++suf,rfl,hch',by rw[HN.out],setRow_heap _ _ C R 5 _ hC,?_,?_,?_,(hbel.drew.trans ⟨rfl,rfl,rfl,by simp,fun k hk=>setRow_other _ _ _ _ (Nat.ne_of_lt hk)⟩)⟩
    ·rw[HR.out];simp[Lib.byteCells];omega
    ·show joinR r++(t++suf)=all
     rw[← ByteArray.append_assoc];exact hall.out
    ·rw[HN.out,HR.out]
     rw[HJ.out] at hdrop
     rw[List.append_assoc,List.drop_left' (by simp;omega),hdrop]
     simp[Lib.byteCells,ByteArray.data_append]
   case measure=>simp[intOf];omega
theorem All_err (b:Nat) (all:ByteArray) (e:Int) (w:World) (h:WrIs w b all e) (he:e≠0) :
  Calls Tryz.prog 211 #[.pointer (some ⟨b,0,none⟩)] w fun r w'=>r=.returned (.tuple #[.string ⟨#[]⟩,.int .i64 e])/\Below w.heap.size w w':=by
 obtain⟨p,l,h1,h2,h3⟩:=h
 clear h2 h3
 have hc2:=h1.c2
 have he':(e !=0)=true:=by simpa using he
 go_enter Tryz.func211,Tryz.ntmps211
 go_wp2
 go_quiet (fail)
 go_wp2
 go_ret2
 exact⟨rfl,below_drewN (Below.refl _ _) _⟩
theorem append_nil (s:ByteArray):s++(⟨#[]⟩:ByteArray)=s:=by apply ByteArray.ext;simp[ByteArray.data_append]
theorem beN_be (k:Nat) (n:Nat) (h:n<256 ^ k):beN (be n k)=n:=by
 have key:∀ (k a:Nat),(be n k).foldl (fun a b=>256*a+b.toNat) a=a*256 ^ k+n % 256 ^ k:=by
  intro k
  induction k with
  | zero=>intro a;simp[be,Nat.mod_one]
  | succ k ih =>
   intro a
   rw[be,List.foldl_cons,ih]
   have hb:(UInt8.ofNat (n / 256 ^ k % 256)).toNat=n / 256 ^ k % 256:=by simp
   rw[hb,Nat.pow_succ,Nat.mod_mul]
   rw[Nat.add_mul,Nat.mul_comm 256 a,Nat.mul_assoc,Nat.mul_comm 256 (256 ^ k),Nat.mul_comm (n / 256 ^ k % 256) (256 ^ k)]
   omega
 unfold beN
 rw[key k 0,Nat.mod_eq_of_lt h]
 omega
theorem limI_nat (k:Nat):limI k=((256 ^ k:Nat):Int):=by simp[limI]
theorem extract_left (a b:ByteArray):(a++b).extract 0 a.size=a:=by
 apply ByteArray.ext
 simp[ByteArray.data_extract,ByteArray.data_append]
theorem extract_right (a b:ByteArray):(a++b).extract a.size (a++b).size=b:=by
 apply ByteArray.ext
 simp[ByteArray.data_extract,ByteArray.data_append]
 have e1:a.data.extract a.size (a.size+b.size)=#[]:=by
  apply Array.eq_empty_of_size_eq_zero
  rw[Array.size_extract,show a.size=a.data.size from rfl]
  omega
 have e2:b.data.extract 0 b.size=b.data:=by
  rw[show b.size=b.data.size from rfl]
  simp
 rw[e1,e2]
 simp
theorem rdRaw_app (a b:ByteArray):rdRaw (a++b) 0 a.size=(a,b,0):=by
 rw[rdRaw_fits (by omega) (by rw[ByteArray.size_append];omega),Int.toNat_natCast,extract_left,extract_right]
theorem rdNum_app (n k:Nat) (b:ByteArray) (h1:1<=k) (h6:k<=6) (hn:n<256 ^ k):rdNum (beS n k++b) 0 k=(n,b,0):=by
 unfold rdNum rdNumSt
 rw[if_neg (by omega)]
 have h:=rdRaw_app (beS n k) b
 rw[beS_size] at h
 rw[h]
 show(beN (be n k),_)=_
 rw[beN_be k n hn]
end Go.Proofs.YtpcnjncgilmehabGreat.Pk
namespace Go.Proofs.YtpcnjncgilmehabGreat
open Go.RowKit Go.Maps Go.ChangeMaps
variable {w w':World}{db lb mb m sb:Nat}{S:Dk}{base pages gen:Nat}
structure StIs (w:World) (sb db base pages gen:Nat):Prop where
 blk:w.heap[sb]?=some (.cells #[.pointer (some ⟨db,0,none⟩),.int .i64 (base:Int),.int .i64 (pages:Int),.int .i64 (gen:Int)] 129)
theorem StIs.c0 (h:StIs w sb db base pages gen):w.cell? ⟨sb,0,none⟩=some (.pointer (some ⟨db,0,none⟩)):=Joins.cell_of_block h.blk 0
theorem StIs.c1 (h:StIs w sb db base pages gen):w.cell? ⟨sb,1,none⟩=some (.int .i64 (base:Int)):=Joins.cell_of_block h.blk 1
theorem StIs.c2 (h:StIs w sb db base pages gen):w.cell? ⟨sb,2,none⟩=some (.int .i64 (pages:Int)):=Joins.cell_of_block h.blk 2
theorem StIs.c3 (h:StIs w sb db base pages gen):w.cell? ⟨sb,3,none⟩=some (.int .i64 (gen:Int)):=Joins.cell_of_block h.blk 3
theorem StIs.lt (h:StIs w sb db base pages gen):sb<w.heap.size:=by
 rcases Nat.lt_or_ge sb w.heap.size with h' |h'
 ·exact h'
 ·have:=h.blk;simp[Array.getElem?_eq_none h'] at this
theorem StIs.below (h:StIs w sb db base pages gen) (hb:Below w.heap.size w w'):StIs w' sb db base pages gen:=⟨(hb.block _ h.lt).trans h.blk⟩
theorem StIs.off {B:Nat->Prop} (h:StIs w sb db base pages gen) (ho:Off B w w') (hn:¬ B sb):StIs w' sb db base pages gen:=⟨(ho.block _ h.lt hn).trans h.blk⟩
theorem StIs.drew (h:StIs w sb db base pages gen):StIs w.drew sb db base pages gen:=⟨h.blk⟩
theorem StPages_any (w:World) (h:StIs w sb db base pages gen):Calls Tryz.prog 62 #[.pointer (some ⟨sb,0,none⟩)] w fun e w'=>e=.returned (.int .i64 (pages:Int))/\w'=w:=by
 have hc:=h.c2
 clear h
 go_enter Tryz.func62,Tryz.ntmps62
 go_wp2
 go_ret
 exact⟨rfl,rfl⟩
theorem strefusal_nil (i:Int) (w:World):Calls Tryz.prog 216 #[.pointer none,.int .i64 i] w fun e w'=>e=.returned (.int .i64 11)/\w'=w:=by
 go_enter Tryz.func216,Tryz.ntmps216
 go_wp2
 go_ret
 exact⟨rfl,rfl⟩
def stRef (pages:Nat) (i:Int):Int:=if i<0∨(pages:Int)<=i then 6 else 0
theorem strefusal_any (w:World) (h:StIs w sb db base pages gen) (i:Int):Calls Tryz.prog 216 #[.pointer (some ⟨sb,0,none⟩),.int .i64 i] w fun e w'=>e=.returned (.int .i64 (stRef pages i))/\w'=w:=by
 have hc:=h.c2
 clear h
 by_cases h1:i<0
 ·go_enter Tryz.func216,Tryz.ntmps216
  go_wp2
  go_ret
  exact⟨by simp[stRef,h1],rfl⟩
 ·by_cases h2:(pages:Int)<=i
  ·go_enter Tryz.func216,Tryz.ntmps216
   go_wp2
   go_ret
   exact⟨by simp[stRef,h2],rfl⟩
  ·go_enter Tryz.func216,Tryz.ntmps216
   go_wp2
   go_ret
   exact⟨by simp[stRef,h1,h2],rfl⟩
theorem stsector_any (w:World) (h:StIs w sb db base pages gen) (i j:Nat) (hb:base+4*i+j<=100000):Calls Tryz.prog 239 #[.pointer (some ⟨sb,0,none⟩),.int .i64 (i:Int),.int .i64 (j:Int)] w fun e w'=>e=.returned (.int .i64 ((base+4*i+j:Nat):Int))/\w'=w:=by
 have hc:=h.c1
 clear h
 have e1:((base+4*i+j:Nat):Int)=(base:Int)+(i:Int)*4+(j:Int):=by omega
 rw[e1]
 have b1:(base:Int)<=100000:=by omega
 have b2:(i:Int)*4<=100000:=by omega
 have b3:(j:Int)<=100000:=by omega
 have b4:(base:Int)+(i:Int)*4<=100000:=by omega
 have b5:(base:Int)+(i:Int)*4+(j:Int)<=100000:=by omega
 go_enter Tryz.func239,Tryz.ntmps239
 go_wp2
 go_ret
 exact⟨rfl,rfl⟩
def hd (g l:Nat):ByteArray:=Pk.beS g 2++Pk.beS l 6
theorem hd_size (g l:Nat):(hd g l).size=8:=by rw[hd,ByteArray.size_append,Pk.beS_size,Pk.beS_size]
def laidV (g:Nat) (l:Int):ByteArray × Int:=if l<0∨281474976710656<=l then(⟨#[]⟩,6) else(hd g l.toNat,0)
theorem wr_new (w:World):Pk.WrIs (w.alloc (.cells #[.pointer none,.int .i64 0,.int .i64 0] 257)) w.heap.size ⟨#[]⟩ 0 :=
 ⟨none,[],(MapKept.heap_alloc w _).1,rfl,rfl⟩
theorem lay_gen {g:Nat} (hg:g<=65535):Pk.wrLay ⟨#[]⟩ 0 (Pk.putV ⟨#[]⟩ (g:Int) 2).1 (Pk.putV ⟨#[]⟩ (g:Int) 2).2=(Pk.beS g 2,0):=by
 have e:Pk.putV ⟨#[]⟩ (g:Int) 2=(⟨#[]⟩++Pk.beS g 2,0):=by
  rw[Pk.putV_fits (by omega) (by rw[Pk.limI_2];omega)];rfl
 rw[e]
 simp only[Pk.wrLay]
 rw[if_neg (by simp),if_neg (by simp)]
 refine Prod.ext ?_ rfl
 apply ByteArray.ext;simp[ByteArray.data_append]
theorem lay_lsn (g:Nat) (l:Int):Pk.wrLay (Pk.beS g 2) 0 (Pk.putV ⟨#[]⟩ l 6).1 (Pk.putV ⟨#[]⟩ l 6).2=laidV g l:=by
 by_cases h:l<0∨281474976710656<=l
 ·rw[Pk.putV_range (by omega) (by rw[Pk.limI_6];exact h)]
  simp[Pk.wrLay,laidV,h]
 ·rw[Pk.putV_fits (by omega) (by rw[Pk.limI_6];exact h)]
  simp only[Pk.wrLay,laidV]
  rw[if_neg (by simp),if_neg (by simp),if_neg h]
  refine Prod.ext ?_ rfl
  apply ByteArray.ext;simp[ByteArray.data_append,hd]
theorem stAll_both (b:Nat) (all:ByteArray) (e:Int) (w:World) (h:Pk.WrIs w b all e) (hsz:all.size<=140737488351232) (he:e≠0->all=⟨#[]⟩) :
  Calls Tryz.prog 211 #[.pointer (some ⟨b,0,none⟩)] w fun r w'=>r=.returned (.tuple #[.string all,.int .i64 e])/\Below w.heap.size w w':=by
 by_cases h0:e=0
 ·subst h0;exact Pk.All_any b all w h hsz
 ·rw[he h0];exact Pk.All_err b all e w h h0
def ststepW (A:ByteArray × Int) (n k:Int):ByteArray × Int:=Pk.wrLay A.1 A.2 (Pk.putV ⟨#[]⟩ n k).1 (Pk.putV ⟨#[]⟩ n k).2
structure WS (w:World) (a b:Nat) (g l:Int) (A:ByteArray × Int) (j:Nat):Prop where
 wr:Pk.WrIs w b A.1 A.2
 sz:A.1.size<=j
 lt:a<w.heap.size
 mrk:w.heap[a]?=some (.cells #[.int .i64 g,.int .i64 l] 269)
theorem WS.k1 {w:World} {a b:Nat} {g l:Int} {A:ByteArray × Int} {j:Nat} (h:WS w a b g l A j):w.cell? ⟨a,1,none⟩=some (.int .i64 l):=Joins.cell_of_block h.mrk 1
theorem ststepW_size (A:ByteArray × Int) (n k:Int):(ststepW A n k).1.size<=A.1.size+6:=by
 have:=(Pk.putV_size n k).1
 unfold ststepW Pk.wrLay
 split
 ·exact Nat.le_add_right _ _
 ·split
  ·exact Nat.zero_le _
  ·simp only[ByteArray.size_append];omega
theorem ststepW_laid {g:Nat} (hg:g<=65535) (l:Int):ststepW (ststepW (⟨#[]⟩,0) (g:Int) 2) l 6=laidV g l:=by
 unfold ststepW
 dsimp only
 rw[lay_gen hg]
 exact lay_lsn g l
set_option maxHeartbeats 1000000 in
theorem stlaid_any (w:World) (g:Nat) (l:Int) (hg:g<=65535):Calls Tryz.prog 240 #[.agg #[.int .i64 (g:Int),.int .i64 l]] w fun e w'=>e=.returned (.tuple #[.string (laidV g l).1,.int .i64 (laidV g l).2])/\Below w.heap.size w w':=by
 have h1:WS ((w.alloc (.cells #[.int .i64 (g:Int),.int .i64 l] 269)).alloc (.cells #[.pointer none,.int .i64 0,.int .i64 0] 257)) w.heap.size (w.heap.size+1) (g:Int) l (⟨#[]⟩,0) 0:=by
  have h:=wr_new (w.alloc (.cells #[.int .i64 (g:Int),.int .i64 l] 269))
  rw[show(w.alloc (.cells #[.int .i64 (g:Int),.int .i64 l] 269)).heap.size=w.heap.size+1 by simp] at h
  exact⟨h,Nat.le_refl _,by simp;omega,(Below.heap_alloc _ _ _ (by simp)).trans (MapKept.heap_alloc w _).1⟩
 obtain⟨f,hf⟩:∃ f,f=ststepW:=⟨_,rfl⟩
 have C1:Hid (∀ w' n k (A:ByteArray × Int) (j:Nat),WS w' w.heap.size (w.heap.size+1) (g:Int) l A j->j<=100 ->
   Calls Tryz.prog 206 #[.pointer (some ⟨w.heap.size+1,0,none⟩),.int .i64 n,.int .i64 k] w' fun r w''=>r=.returned (.tuple #[])/\WS w'' w.heap.size (w.heap.size+1) (g:Int) l (f A n k) (j+6)/\Pk.Off (w.heap.size+1) w' w''):=fun w' n k A j h hz=>by
  refine(Pk.WNum_any (w.heap.size+1) A.1 A.2 n k w' h.wr (by have:=h.sz;omega)).mono ?_
  rintro e w'' ⟨he,hw,ho⟩
  rw[hf]
  exact⟨he,⟨hw,by have:=ststepW_size A n k;have:=h.sz;omega,Nat.lt_of_lt_of_le h.lt ho.size,(ho.block _ h.lt (by omega)).trans h.mrk⟩,ho⟩
 have hL:=ststepW_laid hg l
 rw[← hf] at hL
 rw[← hL]
 have hBe:Hid ((f (f (⟨#[]⟩,0) (g:Int) 2) l 6).2≠0->(f (f (⟨#[]⟩,0) (g:Int) 2) l 6).1=⟨#[]⟩):=by
  intro hy
  rw[hL] at hy ⊢
  unfold laidV at hy ⊢
  split at hy
  ·rw[if_pos (by assumption)]
  ·exact absurd rfl hy
 clear hL hf
 have BB:Hid (Below w.heap.size w ((w.alloc (.cells #[.int .i64 (g:Int),.int .i64 l] 269)).alloc (.cells #[.pointer none,.int .i64 0,.int .i64 0] 257))):=((Below.refl _ _).alloc (Nat.le_refl _) _).alloc (by simp) _
 go_enter Tryz.func240,Tryz.ntmps240
 go_wp2_with (first
  | (go_at_call 206;refine(C1.out _ _ _ _ _ h1 (by omega)).mono ?_;clear h1;rintro e w1 ⟨rfl,h1,o1⟩;have k1:=h1.k1;have B2:Hid (Below w.heap.size w w1):=BB.out.trans (o1.below (by omega) BB.out.size);clear BB;have BB:Hid (Below w.heap.size w w1):=B2.out;clear B2 o1)
  | (go_at_call 211;refine(stAll_both _ _ _ _ h1.wr (by have:=h1.sz;omega) hBe.out).mono ?_;rintro e w3 ⟨rfl,b3⟩))
 go_ret2
 have o:Below w.heap.size w w1:=BB.out
 exact⟨rfl,o.trans (b3.mono o.size)⟩
section
variable {S:Dk}
structure Dq (k:Nat) (S:Dk):Prop where
 ok:S.Ok
 acts:S.acts<=(k:Int)
 downs:S.downs<=(k:Int)
theorem Dq.mono {k k':Nat} (h:Dq k S) (hk:k<=k'):Dq k' S:=⟨h.ok,by have:=h.acts;omega,by have:=h.downs;omega⟩
theorem actDk_counts (S:Dk):(actDk S).acts<=S.acts+1/\(actDk S).downs<=S.downs+1:=by
 unfold actDk offDk;split
 ·exact⟨by dsimp only;omega,Int.le_refl _⟩
 ·split
  ·exact⟨Int.le_refl _,by dsimp only;omega⟩
  ·exact⟨Int.le_refl _,by dsimp only;omega⟩
theorem writeDk_counts (S:Dk) (i:Int) (s:ByteArray):(writeDk S i s).acts<=S.acts+1/\(writeDk S i s).downs<=S.downs+1:=by
 have:=actDk_counts S
 unfold writeDk
 split
 ·exact⟨by omega,by omega⟩
 ·split
  ·exact⟨by omega,by omega⟩
  ·split
   ·exact this
   ·exact this
theorem Dq.write {k:Nat} (h:Dq k S) (hk:k<=1000000000000) (i:Int) (s:ByteArray):Dq (k+1) (writeDk S i s):=by
 have h1:=writeDk_counts S i s
 have:=h.acts
 have:=h.downs
 exact⟨writeDk_ok h.ok (by omega) (by omega) i s,by omega,by omega⟩
theorem syncDk_counts (S:Dk):(syncDk S).acts<=S.acts+1/\(syncDk S).downs<=S.downs+1:=by
 have:=actDk_counts S
 unfold syncDk
 split
 ·split
  ·exact this
  ·exact this
 ·exact⟨by omega,by omega⟩
theorem Dq.sync {k:Nat} (h:Dq k S) (hk:k<=1000000000000):Dq (k+1) (syncDk S):=by
 have h1:=syncDk_counts S
 have:=h.acts
 have:=h.downs
 exact⟨syncDk_ok h.ok (by omega) (by omega),by omega,by omega⟩
theorem Dq.new {n:Nat} (h1:1<=n) (h2:n<=8192):Dq 0 (newDk n):=⟨newDk_ok h1 h2,Int.le_refl _,Int.le_refl _⟩
theorem writeDk_n (S:Dk) (i:Int) (s:ByteArray):(writeDk S i s).n=S.n:=by
 unfold writeDk
 split
 ·rfl
 ·split
  ·rfl
  ·split
   ·exact actDk_n S
   ·exact actDk_n S
theorem syncDk_n (S:Dk):(syncDk S).n=S.n:=by
 unfold syncDk
 split
 ·split
  ·exact actDk_n S
  ·exact actDk_n S
 ·rfl
end
section
variable {S:Dk}{R:Nat->ByteArray->Prop}
structure AllR (R:Nat->ByteArray->Prop) (S:Dk):Prop where
 sure:∀ i,R i (S.sure i)
 wait:∀ i c,S.wait i=some c->R i c
theorem AllR.now (h:AllR R S) (i:Nat):R i (S.now i):=by
 unfold Dk.now
 cases hw:S.wait i with
 | none=>exact h.sure i
 | some c=>exact h.wait i c hw
theorem AllR.off (h:AllR R S) (x:Int):AllR R (offDk S x):=by
 refine⟨fun i=>?_,fun i c hc=>by cases hc⟩
 show R i (lossF S.sure S.wait x i)
 unfold lossF
 cases hw:S.wait i with
 | none=>exact h.sure i
 | some c =>
  dsimp only
  split
  ·exact h.wait i c hw
  ·exact h.sure i
theorem AllR.act (h:AllR R S):AllR R (actDk S):=by
 unfold actDk
 split
 ·exact h.off _
 ·split
  ·exact⟨h.sure,h.wait⟩
  ·exact⟨h.sure,h.wait⟩
theorem AllR.write (h:AllR R S) (i:Nat) (s:ByteArray) (hR:R i (pad s)):AllR R (writeDk S (i:Int) s):=by
 unfold writeDk
 split
 ·exact h
 ·split
  ·exact h
  ·split
   ·exact h.act
   ·rename_i h1 h2 h3
    refine⟨h.act.sure,fun j c hc=>?_⟩
    have hc':upd S.wait (i:Int).toNat (some (pad s)) j=some c:=hc
    rw[Int.toNat_natCast] at hc'
    by_cases e:j=i
    ·subst e
     rw[upd_same] at hc'
     cases hc'
     exact hR
    ·rw[upd_other _ _ e] at hc'
     exact h.wait j c hc'
theorem AllR.sync (h:AllR R S):AllR R (syncDk S):=by
 unfold syncDk
 split
 ·split
  ·exact⟨fun i=>h.now i,fun i c hc=>by cases hc⟩
  ·exact h.act
 ·exact h
end
variable {w w':World}{db lb mb m sb:Nat}{S:Dk}{base pages gen:Nat}
def sec (g l:Nat) (t:ByteArray) (i:Nat):ByteArray:=hd g l++t.extract (i*56) ((i+1)*56)
theorem sec_size {g l:Nat} {t:ByteArray} (ht:t.size=224) {i:Nat} (hi:i<4):(sec g l t i).size=64:=by
 rw[sec,ByteArray.size_append,hd_size,ByteArray.size_extract,ht];omega
theorem pad_self {s:ByteArray} (h:s.size=64):pad s=s:=by
 unfold pad;rw[h];apply ByteArray.ext;simp
def wrK (b:Nat) (t:Nat->ByteArray) (S:Dk):Nat->Dk × Int
 | 0=>(S,0)
 | k+1=>if(wrK b t S k).2=0 then(writeDk (wrK b t S k).1 ((b+k:Nat):Int) (t k),writeE (wrK b t S k).1 ((b+k:Nat):Int) (t k)) else wrK b t S k
theorem wrK_err {b:Nat} {t:Nat->ByteArray} {S:Dk} {k:Nat} (h:(wrK b t S k).2≠0):∀ n,wrK b t S (k+n)=wrK b t S k
 | 0=>rfl
 | n+1=>by
  have:=wrK_err h n
  show(if(wrK b t S (k+n)).2=0 then _ else wrK b t S (k+n))=_
  rw[this,if_neg h]
theorem wrK_dq {b:Nat} {t:Nat->ByteArray} {S:Dk} {q:Nat} (h:Dq q S) (hq:q<=900000000000):∀ k,k<=4->Dq (q+k) (wrK b t S k).1
 | 0,_=>h
 | k+1,hk=>by
  have:=wrK_dq h hq (b:=b) (t:=t) k (by omega)
  rw[wrK]
  split
  ·exact this.write (by omega) _ _
  ·exact this.mono (by omega)
variable {w w':World}{db lb mb m sb:Nat}{S:Dk}{base pages gen:Nat}
set_option maxHeartbeats 1000000 in
theorem StWrite_good (w:World) (h:StIs w sb db base pages gen) (hD:DkIs w db lb mb m S) {q:Nat} (hq:Dq q S) (hk:q<=900000000000) (hm:m<=900000000000) (hne:¬ disk3 db lb mb sb) (hp:base+4*pages<=8192)
  (id:Nat) (hid:id<pages) (hg:gen<=65535) (text:ByteArray) (ht:text.size=224) (l:Nat) (hl:l<281474976710656) :
  Calls Tryz.prog 219 #[.pointer (some ⟨sb,0,none⟩),.int .i64 (id:Int),.string text,.int .i64 (l:Int)] w fun e w' =>
   e=.returned (.int .i64 (wrK (base+4*id) (sec gen l text) S 4).2)/\DkIs w' db lb mb (m+4) (wrK (base+4*id) (sec gen l text) S 4).1/\Off (disk3 db lb mb) w w':=by
 have C0:Hid (∀ w,StIs w sb db base pages gen->Calls Tryz.prog 216 #[.pointer (some ⟨sb,0,none⟩),.int .i64 (id:Int)] w fun e w'=>e=.returned (.int .i64 0)/\w'=w):=fun w h=>by
  have:=strefusal_any w h (id:Int)
  have e:stRef pages (id:Int)=0:=by simp[stRef];omega
  rwa [e] at this
 have CL:Hid (∀ w,Calls Tryz.prog 240 #[.agg #[.int .i64 (gen:Int),.int .i64 (l:Int)]] w fun e w'=>e=.returned (.tuple #[.string (hd gen l),.int .i64 0])/\Below w.heap.size w w'):=fun w=>by
  have:=stlaid_any w gen (l:Int) hg
  have e:laidV gen (l:Int)=(hd gen l,0):=by
   unfold laidV;rw[if_neg (by omega)];rfl
  rwa [e] at this
 obtain⟨T,hT⟩:∃ T,T=wrK (base+4*id) (sec gen l text) S:=⟨_,rfl⟩
 have hT0:Hid (T 0=(S,0)):=by rw[hT];rfl
 have hTd:Hid (∀ k,k<=4->Dq (q+k) (T k).1):=by rw[hT];exact wrK_dq hq hk
 have hTe:Hid (∀ k,(T k).2≠0->∀ n,T (k+n)=T k):=by rw[hT];exact fun k h=>wrK_err h
 have hTs:Hid (∀ k,(T k).2=0->T (k+1)=(writeDk (T k).1 ((base+4*id+k:Nat):Int) (sec gen l text k),writeE (T k).1 ((base+4*id+k:Nat):Int) (sec gen l text k))):=by
  rw[hT];intro k h;rw[wrK,if_pos h]
 rw[← hT]
 clear hT
 have CS:Hid (∀ w (j:Nat),StIs w sb db base pages gen->j<=4->Calls Tryz.prog 239 #[.pointer (some ⟨sb,0,none⟩),.int .i64 (id:Int),.int .i64 (j:Int)] w fun e w'=>e=.returned (.int .i64 ((base+4*id+j:Nat):Int))/\w'=w) :=
  fun w j h hj=>stsector_any w h id j (by omega)
 have CW:Hid (∀ w (j:Nat),DkIs w db lb mb (m+j) (T j).1->j<4->(T j).2=0->Calls Tryz.prog 197 #[.pointer (some ⟨db,0,none⟩),.int .i64 ((base+4*id+j:Nat):Int),.string (sec gen l text j)] w fun e w' =>
   e=.returned (.int .i64 (T (j+1)).2)/\DkIs w' db lb mb (m+(j+1)) (T (j+1)).1/\Off (disk3 db lb mb) w w'):=fun w j h hj hz=>by
  have:=Write_any w h (hTd.out j (by omega)).ok (by omega) ((base+4*id+j:Nat):Int) (sec gen l text j) (by rw[sec_size ht hj];omega)
  rw[hTs.out j hz];exact this
 have hsec:Hid (∀ j,hd gen l++text.extract (j*56) ((j+1)*56)=sec gen l text j):=fun j=>rfl
 have hz1:=hd_size gen l
 have hc3:=h.c3
 have hid2:(id:Int)<=8192:=by omega
 have H:Hid _:=h
 have HD:Hid _:=hD
 clear h hD hid hp hq
 generalize hd gen l=HH at *
 go_enter Tryz.func219,Tryz.ntmps219
 go_wp2_with (first
  | (go_at_call 216;refine(C0.out _ H.out).mono ?_;rintro e w' ⟨rfl,rfl⟩)
  | (go_at_call 240;refine(CL.out _).mono ?_;rintro e w1 ⟨rfl,b1⟩))
 go_loopw [37] (fun i wr=>∃ j:Nat,j<=4/\i=.int .i64 j/\Hid ((T j).2=0)/\DkIs wr db lb mb (m+j) (T j).1/\StIs wr sb db base pages gen/\Off (disk3 db lb mb) w' wr) (fun i _=>4-(intOf i).toNat)
 case atStart =>
  refine⟨0,by omega,rfl,?_,?_,H.out.below b1,Off.of_below b1⟩
  ·show(T 0).2=0
   rw[hT0.out]
  ·rw[hT0.out];exact HD.out.below b1
 case round =>
  obtain⟨j,hj,rfl,hz,hd,hs,ho⟩:=hrel
  by_cases hlt:j<4
  ·have hc0:=hs.c0
   have hzc:(text.extract (j*56) ((j+1)*56)).size=56:=by rw[ByteArray.size_extract,ht];omega
   have hx1:(j:Int)*56<=224:=by omega
   have hx2:((j:Int)+1)*56<=224:=by omega
   have hcat:HH++text.extract (j*56) ((j+1)*56)=sec gen l text j:=hsec.out j
   have hsl:=hs.lt
   go_wp2
   go_region_held3 (fun W=>W.cell? ⟨sb,0,none⟩=some (.pointer (some ⟨db,0,none⟩))) (first |exact keep1 |exact hc0 |go_keep) (first
    | (go_at_call 239;refine(CS.out _ j ?_ ?_).mono ?_;exact hs.drew;exact hj;rintro e w2 ⟨rfl,rfl⟩)
    | (go_at_call 197;refine(CW.out _ j ?_ ?_ ?_).mono ?_;exact hd.drew;exact hlt;exact hz.out;rintro e w3 ⟨rfl,hD3,o3⟩;have keep1:=(o3.cell (p:=⟨sb,0,none⟩) hsl hne).trans hc0))
   clear keep1 hc0 hcat hx1 hx2 hzc
   have oo:=ho.drew.trans o3
   have hs3:=hs.drew.off o3 hne
   by_cases he:(T (j+1)).2=0
   ·have heb:((T (j+1)).2 !=0)=false:=by simpa using he
    go_wp2
    go_roundw
    case rel=>exact⟨j+1,by omega,by go_num,he,hD3,hs3,oo⟩
    case measure=>simp[intOf];omega
   ·have heb:((T (j+1)).2 !=0)=true:=by simpa using he
    have hee:T 4=T (j+1):=by
     have:=hTe.out (j+1) he (3-j)
     rwa [show j+1+(3-j)=4 by omega] at this
    have HE:Hid _:=hee
    clear hee
    go_wp2
    go_ret
    rw[HE.out]
    exact⟨rfl,hD3.mono (by omega),oo⟩
  ·obtain rfl:j=4:=by omega
   go_wp2
   go_ret
   exact⟨by rw[hz.out];rfl,hd,ho⟩
variable {w w':World}{db lb mb m sb:Nat}{S:Dk}{base pages gen:Nat}
def rN (x:ByteArray × Int) (k:Int):Nat × ByteArray × Int:=Pk.rdNum x.1 x.2 k
def rR (x:ByteArray × Int) (k:Int):ByteArray × ByteArray × Int:=Pk.rdRaw x.1 x.2 k
def gnS (c:ByteArray):Nat:=(rN (c,0) 2).1
def lnS (c:ByteArray):Nat:=(rN (rN (c,0) 2).2 6).1
def txS (c:ByteArray):ByteArray:=(rR (rN (rN (c,0) 2).2 6).2 56).1
theorem PkRead_any (s:ByteArray) (w:World):Calls Tryz.prog 94 #[.string s] w fun e w'=>e=.returned (.pointer (some ⟨w.heap.size,0,none⟩))/\w'=w.alloc (.cells #[.string s,.int .i64 0] 210):=by
 go_enter Tryz.func94,Tryz.ntmps94
 go_wp2
 go_ret
 exact⟨rfl,rfl⟩
structure RP (w:World) (b g:Nat) (C:Array Value) (x:ByteArray × Int):Prop where
 rd:Pk.isRd w b x.1 x.2
 sz:x.1.size<=64
 blk:w.heap[g]?=some (.cells C 271)
 lt:g<w.heap.size
 ne:g≠b
theorem RP.c {b g:Nat} {C:Array Value} {x:ByteArray × Int} (h:RP w b g C x) (i:Nat):w.cell? ⟨g,i,none⟩=C[i]?:=Joins.cell_of_block h.blk i
theorem RP.f {b g:Nat} {C:Array Value} {x:ByteArray × Int} (h:RP w b g C x) (i:Nat):w.frozen? ⟨g,i,none⟩=false:=Joins.unfrozen_of_block h.blk i
theorem RP.set {b g:Nat} {C:Array Value} {x:ByteArray × Int} (h:RP w b g C x) (i:Nat) (v:Value):RP (w.setCell ⟨g,i,none⟩ v) b g (C.setIfInBounds i v) x :=
 ⟨(Below.heap_setCell w _ v b h.ne.symm).trans h.rd,h.sz,Joins.block_setCell h.blk _,by have:=h.lt;simpa[go_sem] using this,h.ne⟩
theorem RP.num {b g:Nat} {C:Array Value} {x:ByteArray × Int} (h:RP w b g C x) (k:Int):Calls Tryz.prog 95 #[.pointer (some ⟨b,0,none⟩),.int .i64 k] w fun e w' =>
  e=.returned (.int .i64 ((rN x k).1:Int))/\RP w' b g C (rN x k).2/\Pk.Off b w w':=by
 refine(Pk.Num_any b x.1 x.2 k w (by have:=h.sz;omega) h.rd).mono ?_
 rintro e w' ⟨he,hr,ho⟩
 exact⟨he,⟨hr,Nat.le_trans (Pk.rdNum_size _ _ _) h.sz,(ho.block g h.lt h.ne).trans h.blk,Nat.lt_of_lt_of_le h.lt ho.size,h.ne⟩,ho⟩
theorem RP.raw {b g:Nat} {C:Array Value} {x:ByteArray × Int} (h:RP w b g C x) (k:Int):Calls Tryz.prog 97 #[.pointer (some ⟨b,0,none⟩),.int .i64 k] w fun e w' =>
  e=.returned (.string (rR x k).1)/\RP w' b g C (rR x k).2/\Pk.Off b w w':=by
 refine(Pk.Raw_any b x.1 x.2 k w (by have:=h.sz;omega) h.rd).mono ?_
 rintro e w' ⟨he,hr,ho⟩
 exact⟨he,⟨hr,Nat.le_trans (Pk.rdRaw_size _ _ _) h.sz,(ho.block g h.lt h.ne).trans h.blk,Nat.lt_of_lt_of_le h.lt ho.size,h.ne⟩,ho⟩
structure PartsC (C:Array Value) (f:Nat->ByteArray) (j:Nat):Prop where
 size:C.size=12
 g:∀ i,i<j->C[i*3]?=some (.int .i64 (gnS (f i):Int))
 l:∀ i,i<j->C[i*3+1]?=some (.int .i64 (lnS (f i):Int))
 t:∀ i,i<j->C[i*3+2]?=some (.string (txS (f i)))
theorem PartsC.next {C:Array Value} {f:Nat->ByteArray} {j:Nat} (h:PartsC C f j) (hj:j<4) :
  PartsC (((C.setIfInBounds (j*3) (.int .i64 (gnS (f j):Int))).setIfInBounds (j*3+1) (.int .i64 (lnS (f j):Int))).setIfInBounds (j*3+2) (.string (txS (f j)))) f (j+1):=by
 have hz:=h.size
 refine⟨by simp[hz],fun i hi=>?_,fun i hi=>?_,fun i hi=>?_⟩
 ·by_cases e:i=j
  ·subst e;simp[Array.getElem?_setIfInBounds];omega
  ·have:=h.g i (by omega)
   rw[Array.getElem?_setIfInBounds,if_neg (by omega),Array.getElem?_setIfInBounds,if_neg (by omega),Array.getElem?_setIfInBounds,if_neg (by omega)]
   exact this
 ·by_cases e:i=j
  ·subst e;simp[Array.getElem?_setIfInBounds];omega
  ·have:=h.l i (by omega)
   rw[Array.getElem?_setIfInBounds,if_neg (by omega),Array.getElem?_setIfInBounds,if_neg (by omega),Array.getElem?_setIfInBounds,if_neg (by omega)]
   exact this
 ·by_cases e:i=j
  ·subst e;simp[Array.getElem?_setIfInBounds];omega
  ·have:=h.t i (by omega)
   rw[Array.getElem?_setIfInBounds,if_neg (by omega),Array.getElem?_setIfInBounds,if_neg (by omega),Array.getElem?_setIfInBounds,if_neg (by omega)]
   exact this
theorem make4 (w:World):(Instr.makeSlice 265 (.int .i64 4) (.int .i64 4)).run Tryz.prog w=.ok (.slice (some ⟨w.heap.size,0,none⟩) 4 4) (w.alloc (.cells #[.int .i64 0,.int .i64 0,.string ⟨#[]⟩,.int .i64 0,.int .i64 0,.string ⟨#[]⟩,.int .i64 0,.int .i64 0,.string ⟨#[]⟩,.int .i64 0,.int .i64 0,.string ⟨#[]⟩] 271)):=by kernel_rfl
set_option maxHeartbeats 1000000 in
theorem parts_any (w:World) (h:StIs w sb db base pages gen) (hD:DkIs w db lb mb m S) (hS:S.Ok) (hu:S.up=true) (id:Nat) (hid:id<pages) (hp:base+4*pages<=S.n) :
  Calls Tryz.prog 217 #[.pointer (some ⟨sb,0,none⟩),.int .i64 (id:Int)] w fun e w' =>
   e=.returned (.tuple #[.slice (some ⟨w.heap.size,0,none⟩) 4 4,.int .i64 0])/\(∃ C,w'.heap[w.heap.size]?=some (.cells C 271)/\PartsC C (fun i=>S.now (base+4*id+i)) 4)/\Below w.heap.size w w':=by
 have hn2:=hS.n2
 have CS:Hid (∀ w (j:Nat),StIs w sb db base pages gen->j<=4->Calls Tryz.prog 239 #[.pointer (some ⟨sb,0,none⟩),.int .i64 (id:Int),.int .i64 (j:Int)] w fun e w'=>e=.returned (.int .i64 ((base+4*id+j:Nat):Int))/\w'=w) :=
  fun w j h hj=>stsector_any w h id j (by omega)
 obtain⟨f,hf⟩:∃ f,f=(fun i=>S.now (base+4*id+i)):=⟨_,rfl⟩
 have CR:Hid (∀ w (j:Nat),DkIs w db lb mb m S->j<4->Calls Tryz.prog 93 #[.pointer (some ⟨db,0,none⟩),.int .i64 ((base+4*id+j:Nat):Int)] w fun e w' =>
   e=.returned (.tuple #[.string (f j),.int .i64 0])/\Below w.heap.size w w'):=fun w j h hj=>by
  have:=Read_any w h hS (base+4*id+j) (by omega) hu
  rw[hf];exact this
 have hfz:Hid (∀ j,j<4->(f j).size=64):=fun j hj=>by
  rw[hf]
  show(S.now _).size=64
  unfold Dk.now
  cases hw:S.wait (base+4*id+j) with
  | none=>exact hD.row.size _ (by omega)
  | some c=>exact(hS.wait _ c hw).2
 rw[← hf]
 have hmk:=make4
 have H:Hid _:=h
 have HD:Hid _:=hD
 have hsl:=h.lt
 have hid2:(id:Int)<=8192:=by omega
 clear h hD hf hid hp hS
 go_enter Tryz.func217,Tryz.ntmps217
 go_wp2
 go_loopw [12] (fun i wr=>∃ (j:Nat) (C:Array Value),j<=4/\i=.int .i64 j/\wr.heap[w.heap.size]?=some (.cells C 271)/\PartsC C f j/\Below w.heap.size w wr) (fun i _=>4-(intOf i).toNat)
 case atStart =>
  exact⟨0,_,by omega,rfl,(MapKept.heap_alloc w _).1,⟨rfl,fun i hi=>absurd hi (by omega),fun i hi=>absurd hi (by omega),fun i hi=>absurd hi (by omega)⟩,(Below.refl _ _).alloc (Nat.le_refl _) _⟩
 case round =>
  obtain⟨j,C,hj,rfl,hC,hP,hb⟩:=hrel
  by_cases hlt:j<4
  ·have hs:=H.out.below hb
   have hd:=HD.out.below hb
   have hc0:=hs.c0
   have hslr:=hs.lt
   have hgl:w.heap.size<wr.heap.size:=by
    rcases Nat.lt_or_ge w.heap.size wr.heap.size with h' |h'
    ·exact h'
    ·simp[Array.getElem?_eq_none h'] at hC
   have hcz:=hfz.out j hlt
   go_wp2
   go_region_held3 (fun W=>W.cell? ⟨sb,0,none⟩=some (.pointer (some ⟨db,0,none⟩))) (first |exact keep1 |exact hc0 |go_keep) (first
    | (go_at_call 239;refine(CS.out _ j ?_ ?_).mono ?_;exact hs.drew;exact hj;rintro e w2 ⟨rfl,rfl⟩)
    | (go_at_call 93;refine(CR.out _ j ?_ ?_).mono ?_;exact hd.drew;exact hlt;rintro e w3 ⟨rfl,b3⟩;have keep1:=(b3.cell (p:=⟨sb,0,none⟩) hslr).trans hc0))
   have hb3:Below w.heap.size w w3:=hb.drew.trans (b3.mono hb.size)
   have hC3:w3.heap[w.heap.size]?=some (.cells C 271):=(b3.block _ hgl).trans hC
   have hgl3:w.heap.size<w3.heap.size:=Nat.lt_of_lt_of_le hgl b3.size
   have h1:RP (w3.alloc (.cells #[.string (f j),.int .i64 0] 210)) w3.heap.size w.heap.size C (f j,0) :=
    ⟨(MapKept.heap_alloc w3 _).1,by rw[hcz];exact Nat.le_refl _,(Below.heap_alloc _ _ _ hgl3).trans hC3,by simp;omega,by omega⟩
   clear keep1 hc0 hs hd b3 hC
   obtain⟨v0,e0⟩:∃ v,C[j*3]?=some v:=⟨_,Array.getElem?_eq_getElem (by rw[hP.size];omega)⟩
   obtain⟨v1,e1⟩:∃ v,C[j*3+1]?=some v:=⟨_,Array.getElem?_eq_getElem (by rw[hP.size];omega)⟩
   obtain⟨v2,e2⟩:∃ v,C[j*3+2]?=some v:=⟨_,Array.getElem?_eq_getElem (by rw[hP.size];omega)⟩
   have e2':∀ x y:Value,((C.setIfInBounds (j*3) x).setIfInBounds (j*3+1) y)[j*3+2]?=some v2:=fun x y=>by
    rw[Array.getElem?_setIfInBounds,if_neg (by omega),Array.getElem?_setIfInBounds,if_neg (by omega)];exact e2
   have BB:Hid (Below w.heap.size w (w3.alloc (.cells #[.string (f j),.int .i64 0] 210))):=hb3.alloc hb3.size _
   have hle:=hb3.size
   clear hb3
   go_wp2_with (first
    | (go_at_call 94;refine(PkRead_any _ _).mono ?_;rintro e w4 ⟨rfl,rfl⟩)
    | (go_at_call 95;refine(h1.num _).mono ?_;clear h1;rintro e w5 ⟨rfl,h1,o1⟩;have k0:=(h1.c (j*3)).trans e0;have k1:=(h1.c (j*3+1)).trans e1;have k2:=(h1.c (j*3+2)).trans e2;have hff:=h1.f;have B2:Hid (Below w.heap.size w w5):=BB.out.trans (o1.below hle BB.out.size);clear BB;have BB:Hid (Below w.heap.size w w5):=B2.out;clear B2 o1)
    | (go_at_call 97;refine(((h1.set _ _).set _ _).raw _).mono ?_;clear h1;rintro e w6 ⟨rfl,h1,o1⟩;have k2:=(h1.c (j*3+2)).trans (e2' _ _);have hff:=h1.f))
   have hle5:w.heap.size<=w5.heap.size:=BB.out.size
   have B5:∀ x y:Value,Below w.heap.size w ((w5.setCell ⟨w.heap.size,j*3,none⟩ x).setCell ⟨w.heap.size,j*3+1,none⟩ y):=fun x y=>(BB.out.setCell (Nat.le_refl _) _).setCell (Nat.le_refl _) _
   have B6:Below w.heap.size w w6:=(B5 _ _).trans (o1.below hle (B5 _ _).size)
   go_roundw
   case rel=>exact⟨j+1,_,by omega,by go_num,(h1.set _ _).blk,hP.next hlt,B6.setCell (Nat.le_refl _) _⟩
   case measure=>simp[intOf];omega
  ·obtain rfl:j=4:=by omega
   go_wp2
   go_ret2
   exact⟨rfl,⟨C,hC,hP⟩,hb⟩
end Go.Proofs.YtpcnjncgilmehabGreat
