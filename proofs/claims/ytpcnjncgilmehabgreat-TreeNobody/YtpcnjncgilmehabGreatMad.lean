import Derived.Test.YtpcnjncgilmehabGreatMac
import Derived.Lib.FrozenHead
set_option linter.unusedVariables false
set_option linter.unusedSimpArgs false
set_option maxRecDepth 100000
namespace Go.Proofs.YtpcnjncgilmehabGreat
open Go.RowKit Go.Maps Go.ChangeMaps
variable {w w':World}{db lb mb m sb:Nat}{S:Dk}{base pages gen:Nat}
def txtJ (f:Nat->ByteArray):Nat->ByteArray
 | 0=>⟨#[]⟩
 | j+1=>txtJ f j++txS (f j)
def knwJ (gen:Nat) (f:Nat->ByteArray):Nat->Bool
 | 0=>false
 | j+1=>knwJ gen f j||((gnS (f j):Int)==(gen:Int))
def whlJ (f:Nat->ByteArray):Nat->Bool
 | 0=>true
 | j+1=>whlJ f j&&(((gnS (f j):Int)==(gnS (f 0):Int))&&((lnS (f j):Int)==(lnS (f 0):Int)))
def rdV (gen:Nat) (f:Nat->ByteArray):ByteArray × Int × Int :=
 if knwJ gen f 4=false then(⟨#[]⟩,0,8) else if whlJ f 4=false then(⟨#[]⟩,0,10) else(txtJ f 4,(lnS (f 0):Int),0)
theorem txS_size (c:ByteArray):(txS c).size<=56:=Pk.rdRaw_size1 _ _ _ 56 (Int.le_refl _)
theorem txtJ_size (f:Nat->ByteArray):∀ j,(txtJ f j).size<=56*j
 | 0=>Nat.le_refl _
 | j+1=>by
  have:=txtJ_size f j
  have:=txS_size (f j)
  rw[txtJ,ByteArray.size_append];omega
theorem below_drewN (w:World) (n:Nat):Below w.heap.size w (w.drewN n):=⟨rfl,rfl,rfl,Nat.le_refl _,fun _ _=>rfl⟩
set_option maxHeartbeats 2000000 in
theorem StRead_good (w:World) (h:StIs w sb db base pages gen) (hD:DkIs w db lb mb m S) (hS:S.Ok) (hu:S.up=true) (id:Nat) (hid:id<pages) (hp:base+4*pages<=S.n) :
  Calls Tryz.prog 181 #[.pointer (some ⟨sb,0,none⟩),.int .i64 (id:Int)] w fun e w' =>
   e=.returned (.tuple #[.string (rdV gen (fun i=>S.now (base+4*id+i))).1,.int .i64 (rdV gen (fun i=>S.now (base+4*id+i))).2.1,.int .i64 (rdV gen (fun i=>S.now (base+4*id+i))).2.2])/\Below w.heap.size w w':=by
 have C0:Hid (∀ w,StIs w sb db base pages gen->Calls Tryz.prog 216 #[.pointer (some ⟨sb,0,none⟩),.int .i64 (id:Int)] w fun e w'=>e=.returned (.int .i64 0)/\w'=w):=fun w h=>by
  have:=strefusal_any w h (id:Int)
  have e:stRef pages (id:Int)=0:=by simp[stRef];omega
  rwa [e] at this
 obtain⟨f,hf⟩:∃ f,f=(fun i=>S.now (base+4*id+i)):=⟨_,rfl⟩
 have CP:Hid (Calls Tryz.prog 217 #[.pointer (some ⟨sb,0,none⟩),.int .i64 (id:Int)] w fun e w' =>
   e=.returned (.tuple #[.slice (some ⟨w.heap.size,0,none⟩) 4 4,.int .i64 0])/\(∃ C,w'.heap[w.heap.size]?=some (.cells C 271)/\PartsC C f 4)/\Below w.heap.size w w'):=by
  rw[hf];exact parts_any w h hD hS hu id hid hp
 rw[← hf]
 have H:Hid _:=h
 have hsl:=h.lt
 clear h hD hf hid hp hS
 go_enter Tryz.func181,Tryz.ntmps181
 go_wp2_with (first
  | (go_at_call 216;refine(C0.out _ H.out).mono ?_;rintro e w' ⟨rfl,rfl⟩)
  | (go_at_call 217;refine CP.out.mono ?_;rintro e w1 ⟨rfl,⟨C,hC,hP⟩,b1⟩;have q0:=(Joins.cell_of_block hC 0).trans (hP.g 0 (by omega));have q1:=(Joins.cell_of_block hC 1).trans (hP.l 0 (by omega)))
  )
 have hle:=b1.size
 have hs1:=H.out.below b1
 have hgl:w'.heap.size<w1.heap.size:=by
  rcases Nat.lt_or_ge w'.heap.size w1.heap.size with h' |h'
  ·exact h'
  ·simp[Array.getElem?_eq_none h'] at hC
 clear C0 CP q0 q1
 go_loopw [11,12,13,37] (fun t k v i wr=>∃ (j:Nat),j<=4/\i=.int .i64 j/\t=.string (txtJ f j)/\k=.bool (knwJ gen f j)/\v=.bool (whlJ f j)/\Below (w1.heap.size+1) (w1.alloc (.cells #[.int .i64 (gnS (f 0):Int),.int .i64 (lnS (f 0):Int)] 269)) wr) (fun _ _ _ i _=>4-(intOf i).toNat)
 case atStart =>
  exact⟨0,by omega,rfl,rfl,rfl,rfl,Below.refl _ _⟩
 case round =>
  obtain⟨j,hj,rfl,rfl,rfl,rfl,hb⟩:=hrel
  have hsm:(w1.alloc (.cells #[.int .i64 (gnS (f 0):Int),.int .i64 (lnS (f 0):Int)] 269)).heap.size=w1.heap.size+1:=by simp
  have hkl:w1.heap.size+1<=wr.heap.size:=by have:=hb.size;rwa [hsm] at this
  have d0:wr.cell? ⟨w1.heap.size,0,none⟩=some (.int .i64 (gnS (f 0):Int)):=(hb.cell (p:=⟨w1.heap.size,0,none⟩) (Nat.lt_succ_self _)).trans (Joins.cell_of_block (MapKept.heap_alloc w1 _).1 0)
  have d1:wr.cell? ⟨w1.heap.size,1,none⟩=some (.int .i64 (lnS (f 0):Int)):=(hb.cell (p:=⟨w1.heap.size,1,none⟩) (Nat.lt_succ_self _)).trans (Joins.cell_of_block (MapKept.heap_alloc w1 _).1 1)
  have bb:Below w'.heap.size w' wr:=(b1.alloc hle _).trans (hb.mono (by omega))
  by_cases hlt:j<4
  ·have hs:=H.out.below bb
   have hc3:=hs.c3
   have hslr:=hs.lt
   have hCr:wr.heap[w'.heap.size]?=some (.cells C 271):=(hb.block _ (by omega)).trans ((Below.heap_alloc _ _ _ hgl).trans hC)
   have k0:=(Joins.cell_of_block hCr (j*3)).trans (hP.g j hlt)
   have k1:=(Joins.cell_of_block hCr (j*3+1)).trans (hP.l j hlt)
   have k2:=(Joins.cell_of_block hCr (j*3+2)).trans (hP.t j hlt)
   have z1:=txtJ_size f j
   have z2:=txS_size (f j)
   have z3:(txtJ f j).size<=224:=by omega
   have et:txtJ f (j+1)=txtJ f j++txS (f j):=rfl
   have ek:knwJ gen f (j+1)=(knwJ gen f j||((gnS (f j):Int)==(gen:Int))):=rfl
   have ew:whlJ f (j+1)=(whlJ f j&&(((gnS (f j):Int)==(gnS (f 0):Int))&&((lnS (f j):Int)==(lnS (f 0):Int)))):=rfl
   have HE:Hid _:=And.intro et (And.intro ek ew)
   have hkl2:w1.heap.size<wr.heap.size:=by omega
   have d0':∀ o n,((wr.alloc o).drewN n).cell? ⟨w1.heap.size,0,none⟩=some (.int .i64 (gnS (f 0):Int)):=fun o n=>(World.cell?_alloc_lt _ _ _ hkl2).trans d0
   have d1':∀ o n,((wr.alloc o).drewN n).cell? ⟨w1.heap.size,1,none⟩=some (.int .i64 (lnS (f 0):Int)):=fun o n=>(World.cell?_alloc_lt _ _ _ hkl2).trans d1
   clear et ek ew z1 hCr hs
   cases hk:knwJ gen f j
   ·cases hw:whlJ f j
    ·go_wp2
     go_quiet (fail)
     go_wp2
     go_roundw
     case rel =>
      refine⟨j+1,by omega,by go_num,by rw[HE.out.1],?_,?_,?_⟩
      ·rw[HE.out.2.1,hk];simp
      ·rw[HE.out.2.2,hw];simp
      ·exact(hb.alloc (by omega) _).trans ((below_drewN _ _).mono (by simp;omega))
     case measure=>simp[intOf];omega
    ·by_cases e1:(gnS (f j):Int)=(gnS (f 0):Int)
     ·by_cases e2:(lnS (f j):Int)=(lnS (f 0):Int)
      ·go_wp2
       go_quiet (fail)
       go_wp2
       go_roundw
       case rel =>
        refine⟨j+1,by omega,by go_num,by rw[HE.out.1],?_,?_,?_⟩
        ·rw[HE.out.2.1,hk];simp[e1,e2]
        ·rw[HE.out.2.2,hw];simp[e1,e2]
        ·exact(hb.alloc (by omega) _).trans ((below_drewN _ _).mono (by simp;omega))
       case measure=>simp[intOf];omega
      ·go_wp2
       go_quiet (fail)
       go_wp2
       go_roundw
       case rel =>
        refine⟨j+1,by omega,by go_num,by rw[HE.out.1],?_,?_,?_⟩
        ·rw[HE.out.2.1,hk];simp[e1,e2]
        ·rw[HE.out.2.2,hw];simp[e1,e2]
        ·exact(hb.alloc (by omega) _).trans ((below_drewN _ _).mono (by simp;omega))
       case measure=>simp[intOf];omega
     ·go_wp2
      go_quiet (fail)
      go_wp2
      go_roundw
      case rel =>
       refine⟨j+1,by omega,by go_num,by rw[HE.out.1],?_,?_,?_⟩
       ·rw[HE.out.2.1,hk];simp[e1]
       ·rw[HE.out.2.2,hw];simp[e1]
       ·exact(hb.alloc (by omega) _).trans ((below_drewN _ _).mono (by simp;omega))
      case measure=>simp[intOf];omega
   ·cases hw:whlJ f j
    ·go_wp2
     go_quiet (fail)
     go_wp2
     go_roundw
     case rel =>
      refine⟨j+1,by omega,by go_num,by rw[HE.out.1],?_,?_,?_⟩
      ·rw[HE.out.2.1,hk];simp
      ·rw[HE.out.2.2,hw];simp
      ·exact(hb.alloc (by omega) _).trans ((below_drewN _ _).mono (by simp;omega))
     case measure=>simp[intOf];omega
    ·by_cases e1:(gnS (f j):Int)=(gnS (f 0):Int)
     ·by_cases e2:(lnS (f j):Int)=(lnS (f 0):Int)
      ·go_wp2
       go_quiet (fail)
       go_wp2
       go_roundw
       case rel =>
        refine⟨j+1,by omega,by go_num,by rw[HE.out.1],?_,?_,?_⟩
        ·rw[HE.out.2.1,hk];simp[e1,e2]
        ·rw[HE.out.2.2,hw];simp[e1,e2]
        ·exact(hb.alloc (by omega) _).trans ((below_drewN _ _).mono (by simp;omega))
       case measure=>simp[intOf];omega
      ·go_wp2
       go_quiet (fail)
       go_wp2
       go_roundw
       case rel =>
        refine⟨j+1,by omega,by go_num,by rw[HE.out.1],?_,?_,?_⟩
        ·rw[HE.out.2.1,hk];simp[e1,e2]
        ·rw[HE.out.2.2,hw];simp[e1,e2]
        ·exact(hb.alloc (by omega) _).trans ((below_drewN _ _).mono (by simp;omega))
       case measure=>simp[intOf];omega
     ·go_wp2
      go_quiet (fail)
      go_wp2
      go_roundw
      case rel =>
       refine⟨j+1,by omega,by go_num,by rw[HE.out.1],?_,?_,?_⟩
       ·rw[HE.out.2.1,hk];simp[e1]
       ·rw[HE.out.2.2,hw];simp[e1]
       ·exact(hb.alloc (by omega) _).trans ((below_drewN _ _).mono (by simp;omega))
      case measure=>simp[intOf];omega
  ·obtain rfl:j=4:=by omega
   have z3:=txtJ_size f 4
   cases hk:knwJ gen f 4
   ·go_wp2
    go_ret3
    unfold rdV
    rw[hk]
    exact⟨rfl,bb⟩
   ·cases hw:whlJ f 4
    ·go_wp2
     go_ret3
     unfold rdV
     rw[hk,hw]
     exact⟨rfl,bb⟩
    ·go_wp2
     go_quiet (fail)
     go_wp2
     go_ret3
     unfold rdV
     rw[hk,hw]
     exact⟨rfl,bb.trans ((below_drewN _ _).mono bb.size)⟩
variable {w w':World}{db lb mb m sb:Nat}{S:Dk}{base pages gen:Nat}
def rdOut (base pages gen:Nat) (S:Dk) (id:Int):ByteArray × Int × Int :=
 if id<0∨(pages:Int)<=id then(⟨#[]⟩,0,6) else rdV gen (fun i=>S.now (base+4*id.toNat+i))
theorem StRead_nil (id:Int) (w:World):Calls Tryz.prog 181 #[.pointer none,.int .i64 id] w fun e w'=>e=.returned (.tuple #[.string ⟨#[]⟩,.int .i64 0,.int .i64 11])/\w'=w:=by
 go_enter Tryz.func181,Tryz.ntmps181
 go_wp2_with (go_at_call 216;refine(strefusal_nil _ _).mono ?_;rintro e w' ⟨rfl,rfl⟩)
 go_ret3
 exact⟨rfl,rfl⟩
theorem StRead_any (w:World) (h:StIs w sb db base pages gen) (hD:DkIs w db lb mb m S) (hS:S.Ok) (hu:S.up=true) (hp:base+4*pages<=S.n) (id:Int) :
  Calls Tryz.prog 181 #[.pointer (some ⟨sb,0,none⟩),.int .i64 id] w fun e w' =>
   e=.returned (.tuple #[.string (rdOut base pages gen S id).1,.int .i64 (rdOut base pages gen S id).2.1,.int .i64 (rdOut base pages gen S id).2.2])/\Below w.heap.size w w':=by
 unfold rdOut
 by_cases h1:id<0∨(pages:Int)<=id
 ·rw[if_pos h1]
  have C0:Hid (∀ w,StIs w sb db base pages gen->Calls Tryz.prog 216 #[.pointer (some ⟨sb,0,none⟩),.int .i64 id] w fun e w'=>e=.returned (.int .i64 6)/\w'=w):=fun w h=>by
   have:=strefusal_any w h id
   have e:stRef pages id=6:=by unfold stRef;rw[if_pos h1]
   rwa [e] at this
  have H:Hid _:=h
  clear h h1 hD
  go_enter Tryz.func181,Tryz.ntmps181
  go_wp2_with (go_at_call 216;refine(C0.out _ H.out).mono ?_;rintro e w' ⟨rfl,rfl⟩)
  go_ret3
  exact⟨rfl,Below.refl _ _⟩
 ·rw[if_neg h1]
  have:=StRead_good w h hD hS hu id.toNat (by omega) hp
  rw[Int.toNat_of_nonneg (by omega)] at this
  exact this
theorem StSync_any (w:World) (h:StIs w sb db base pages gen) (hD:DkIs w db lb mb m S) (hS:S.Ok) (hm:m<=10000000000000) :
  Calls Tryz.prog 220 #[.pointer (some ⟨sb,0,none⟩)] w fun e w'=>e=.returned (.int .i64 (syncE S))/\DkIs w' db lb mb m (syncDk S)/\Off (disk3 db lb mb) w w':=by
 have CS:Hid (∀ w,DkIs w db lb mb m S->Calls Tryz.prog 150 #[.pointer (some ⟨db,0,none⟩)] w fun e w' =>
  e=.returned (.int .i64 (syncE S))/\DkIs w' db lb mb m (syncDk S)/\Off (disk3 db lb mb) w w'):=fun w h=>Sync_any w h hS hm
 have hc0:=h.c0
 have HD:Hid _:=hD
 clear h hD
 go_enter Tryz.func220,Tryz.ntmps220
 go_wp2_with (go_at_call 150;refine(CS.out _ HD.out).mono ?_;rintro e w' ⟨rfl,hd,ho⟩)
 go_ret
 exact⟨rfl,hd,ho⟩
theorem StNew_good (b p g:Nat) (w:World) (hD:DkIs w db lb mb m S) (hS:S.Ok) (hg1:1<=g) (hg2:g<=65535) (hp1:1<=p) (hp2:p<=200) (hr:b+4*p<=S.n) :
  Calls Tryz.prog 26 #[.pointer (some ⟨db,0,none⟩),.int .i64 (b:Int),.int .i64 (p:Int),.int .i64 (g:Int)] w fun e w' =>
   e=.returned (.tuple #[.pointer (some ⟨w.heap.size,0,none⟩),.int .i64 0])/\StIs w' w.heap.size db b p g/\Below w.heap.size w w':=by
 have hn2:=hS.n2
 have CZ:Hid (∀ w,DkIs w db lb mb m S->Calls Tryz.prog 54 #[.pointer (some ⟨db,0,none⟩)] w fun e w'=>e=.returned (.int .i64 S.n)/\w'=w):=fun w h=>Size_any w h hS.n1
 have h1:¬ (g:Int)<1:=by omega
 have h2:¬ 65535<(g:Int):=by omega
 have h3:¬ (b:Int)<0:=by omega
 have h4:¬ (p:Int)<1:=by omega
 have h5:¬ 200<(p:Int):=by omega
 have h6:¬ (S.n:Int)-(b:Int)<(p:Int)*4:=by omega
 have h7:(p:Int)*4<=800:=by omega
 have h8:(b:Int)<=8192:=by omega
 have HD:Hid _:=hD
 clear hD hr
 go_enter Tryz.func26,Tryz.ntmps26
 go_wp2_with (go_at_call 54;refine(CZ.out _ HD.out).mono ?_;rintro e w' ⟨rfl,rfl⟩)
 go_ret2
 exact⟨rfl,⟨(MapKept.heap_alloc _ _).1⟩,(Below.refl _ _).alloc (Nat.le_refl _) _⟩
variable {S:Dk}
theorem p2:256 ^ 2=65536:=by decide
theorem p6:256 ^ 6=281474976710656:=by decide
theorem rN_two (g l:Nat) (hg:g<=65535) (x:ByteArray):rN (hd g l++x,0) 2=(g,Pk.beS l 6++x,0):=by
 have:=Pk.rdNum_app g 2 (Pk.beS l 6++x) (by omega) (by omega) (by rw[p2];omega)
 rw[← ByteArray.append_assoc] at this
 exact this
theorem rN_six (l:Nat) (hl:l<281474976710656) (x:ByteArray):rN (Pk.beS l 6++x,0) 6=(l,x,0) :=
 Pk.rdNum_app l 6 x (by omega) (by omega) (by rw[p6];omega)
theorem rR_all (x:ByteArray) (hx:x.size=56):(rR (x,0) 56).1=x:=by
 unfold rR
 rw[Pk.rdRaw_fits (by omega) (by simp only[hx];omega)]
 show x.extract 0 56=x
 apply ByteArray.ext
 have:x.data.size=56:=hx
 simp[ByteArray.data_extract,this]
theorem read_hd (g l:Nat) (hg:g<=65535) (hl:l<281474976710656) (x:ByteArray) (hx:x.size=56):gnS (hd g l++x)=g/\lnS (hd g l++x)=l/\txS (hd g l++x)=x:=by
 unfold gnS lnS txS
 rw[rN_two g l hg]
 dsimp only
 rw[rN_six l hl]
 exact⟨rfl,rfl,rR_all x hx⟩
theorem read_sec {g l:Nat} (hg:g<=65535) (hl:l<281474976710656) {t:ByteArray} (ht:t.size=224) {i:Nat} (hi:i<4) :
  gnS (sec g l t i)=g/\lnS (sec g l t i)=l/\txS (sec g l t i)=t.extract (i*56) ((i+1)*56) :=
 read_hd g l hg hl _ (by rw[ByteArray.size_extract,ht];omega)
theorem gnS_zero:gnS zs64=0:=by decide +kernel
theorem four_cuts {t:ByteArray} (ht:t.size=224):⟨#[]⟩++t.extract (0*56) ((0+1)*56)++t.extract (1*56) ((1+1)*56)++t.extract (2*56) ((2+1)*56)++t.extract (3*56) ((3+1)*56)=t:=by
 apply ByteArray.ext
 have hz:t.data.size=224:=ht
 simp only[ByteArray.data_append,ByteArray.data_extract]
 apply Array.ext'
 simp only[Array.toList_append,Array.toList_extract,List.extract_eq_take_drop]
 have hl:t.data.toList.length=224:=by simpa using hz
 generalize t.data.toList=L at hl
 have e1:L.take 56++(L.drop 56).take 56=L.take 112:=by rw[← List.take_add]
 have e2:L.take 112++(L.drop 112).take 56=L.take 168:=by rw[← List.take_add]
 have e3:L.take 168++(L.drop 168).take 56=L.take 224:=by rw[← List.take_add]
 show []++(L.drop 0).take 56++(L.drop 56).take 56++(L.drop 112).take 56++(L.drop 168).take 56=L
 rw[List.nil_append,List.drop_zero,e1,e2,e3,List.take_of_length_le (by omega)]
theorem rdV_whole {g l:Nat} (hg:g<=65535) (hl:l<281474976710656) {t:ByteArray} (ht:t.size=224) {f:Nat->ByteArray} (hf:∀ i,i<4->f i=sec g l t i):rdV g f=(t,(l:Int),0):=by
 have r:=fun i hi=>read_sec hg hl ht (i:=i) hi
 have e:∀ i,i<4->gnS (f i)=g/\lnS (f i)=l/\txS (f i)=t.extract (i*56) ((i+1)*56):=fun i hi=>by rw[hf i hi];exact r i hi
 have k:knwJ g f 4=true:=by
  simp only[knwJ,(e 0 (by omega)).1];simp
 have v:whlJ f 4=true:=by
  simp only[whlJ,(e 0 (by omega)).1,(e 1 (by omega)).1,(e 2 (by omega)).1,(e 3 (by omega)).1,(e 0 (by omega)).2.1,(e 1 (by omega)).2.1,(e 2 (by omega)).2.1,(e 3 (by omega)).2.1];simp
 have x:txtJ f 4=t:=by
  simp only[txtJ,(e 0 (by omega)).2.2,(e 1 (by omega)).2.2,(e 2 (by omega)).2.2,(e 3 (by omega)).2.2]
  exact four_cuts ht
 unfold rdV
 rw[k,v,x,(e 0 (by omega)).2.1]
 rfl
theorem rdV_none {g:Nat} {f:Nat->ByteArray} (hf:∀ i,i<4->gnS (f i)≠g):rdV g f=(⟨#[]⟩,0,8):=by
 have h:=fun i hi=>(by have:=hf i hi;simp;omega:((gnS (f i):Int)==(g:Int))=false)
 have k:knwJ g f 4=false:=by
  simp only[knwJ,h 0 (by omega),h 1 (by omega),h 2 (by omega),h 3 (by omega)];rfl
 unfold rdV
 rw[k]
 rfl
structure PrSet where
 p:Nat->Option Obj
section
variable [Inhabited PrSet]
def isP (k:Nat):Prop:=(default:PrSet).p k≠none
def np (k:Nat):Prop:=¬ isP k
def Ltp (w:World):Prop:=∀ k o,(default:PrSet).p k=some o->w.heap[k]?=some o
structure Ow (B k:Nat):Prop where
 ge:B<=k
 np:np k
def npv (v:Value):Prop:=∀ g,v.ownBlock=some g->np g
theorem Ltp.new {w:World} (h:Ltp w) {k:Nat} (hk:w.heap.size<=k):np k:=fun e=>by
 cases e2:(default:PrSet).p k with
 | none=>exact e e2
 | some o=>have:=(Array.getElem?_eq_some_iff.1 (h k o e2)).1;omega
theorem Ltp.below {w w':World} (h:Ltp w) (hb:Below w.heap.size w w'):Ltp w':=fun k o e=>(hb.block k (Array.getElem?_eq_some_iff.1 (h k o e)).1).trans (h k o e)
theorem isP_of {k:Nat} {o:Obj} (e:(default:PrSet).p k=some o):isP k:=fun e2=>by rw[e] at e2;cases e2
theorem Ltp.ow {w:World} (h:Ltp w) {k B:Nat} (hB:B<=w.heap.size) (hk:w.heap.size<=k):Ow B k:=⟨Nat.le_trans hB hk,h.new hk⟩
theorem npv.nil:npv (.slice none 0 0):=fun g e=>by cases e
theorem npv.of {w:World} {v v':Value} (h:npv v) (hl:Ltp w) (ho:v'.ownBlock=v.ownBlock∨v'.ownBlock=some w.heap.size∨v'.ownBlock=none):npv v':=fun g e=>by
 rcases ho with e2 |e2 |e2
 ·exact h g (e2 ▸ e)
 ·rw[e2] at e;cases e;exact hl.new (Nat.le_refl _)
 ·rw[e2] at e;cases e
end
def isD:Obj->Prop
 | .cells _ t _=>t=122∨t=207
 | .map _ _=>True
 | _=>False
def isL:Obj->Prop
 | .cells _ t _=>t=3∨t=5∨t=85
 | _=>False
def isA (o:Obj):Prop:=isD o∨isL o
structure Kp [Inhabited PrSet] (A:Obj->Prop) (B:Nat) (w w':World):Prop where
 bel:Below B w w'
 block:∀ (k:Nat) (o:Obj),w.heap[k]?=some o->¬ A o->w'.heap[k]?=some o
 prot:∀ (k:Nat) (o:Obj),w.heap[k]?=some o->isP k->w'.heap[k]?=some o
section
variable [Inhabited PrSet]{A A':Obj->Prop}{B:Nat}{w w' w1 w2:World}
theorem Kp.refl (A:Obj->Prop) (B:Nat) (w:World):Kp A B w w:=⟨Below.refl _ _,fun _ _ h _=>h,fun _ _ h _=>h⟩
theorem Kp.trans (h:Kp A B w w1) (k:Kp A B w1 w2):Kp A B w w2:=⟨h.bel.trans k.bel,fun j o h1 h2=>k.block j o (h.block j o h1 h2) h2,fun j o h1 h2=>k.prot j o (h.prot j o h1 h2) h2⟩
theorem Kp.mono (h:Kp A B w w1) (hA:∀ o,A o->A' o):Kp A' B w w1:=⟨h.bel,fun j o h1 h2=>h.block j o h1 (fun e=>h2 (hA o e)),h.prot⟩
theorem Kp.drew (A:Obj->Prop) (B:Nat) (w:World):Kp A B w w.drew:=⟨(Below.refl B w).drew,fun k o e _=>e,fun k o e _=>e⟩
theorem Kp.one {b:Nat} {ob:Obj} (hb:w.heap[b]?=some ob) (hA:A ob) (hbl:Below B w w') (hn:np b) (ho:∀ k o,w.heap[k]?=some o->k≠b->w'.heap[k]?=some o):Kp A B w w':=⟨hbl,fun k o e h=>by
  by_cases hk:k=b
  ·subst hk;rw[hb] at e;cases e;exact absurd hA h
  ·exact ho k o e hk,fun k o e h=>ho k o e (fun e2=>by subst e2;exact hn h)⟩
theorem Kp.cell {b i:Nat} {cs:Array Value} {t:TypeId} {fr:Nat × Nat} {u:Value} (hb:w.heap[b]?=some (.cells cs t fr)) (hA:A (.cells cs t fr)) (hB:Ow B b):Kp A B w (w.setCell ⟨b,i,none⟩ u) :=
 Kp.one hb hA ((Below.refl B w).setCell (p:=⟨b,i,none⟩) hB.ge _) hB.np (fun k o e hk=>by rw[Below.heap_setCell _ _ _ _ hk];exact e)
theorem Kp.d (h:Kp isD B w w1):Kp isA B w w1:=h.mono (fun _=>Or.inl)
theorem Kp.l (h:Kp isL B w w1):Kp isA B w w1:=h.mono (fun _=>Or.inr)
theorem Kp.of_below (h:Below w.heap.size w w') (hB:B<=w.heap.size):Kp A B w w':=⟨h.mono hB,fun j o h1 _=>(h.block j (Array.getElem?_eq_some_iff.1 h1).1).trans h1,fun j o h1 _=>(h.block j (Array.getElem?_eq_some_iff.1 h1).1).trans h1⟩
theorem Kp.below (h:Kp A B w w1) (k:Below w1.heap.size w1 w2) (hB:B<=w.heap.size):Kp A B w w2:=h.trans (Kp.of_below k (Nat.le_trans hB h.bel.size))
theorem Ltp.kp (h:Ltp w) (hk:Kp A B w w'):Ltp w':=fun k o e=>hk.prot k o (h k o e) (isP_of e)
theorem Kp.size (h:Kp A B w w1):w.heap.size<=w1.heap.size:=h.bel.size
end
section
variable {w w' w1 w2:World}
structure Ce (w w':World):Prop where
 size:w.heap.size<=w'.heap.size
 cell:∀ p:Addr,p.block<w.heap.size->w'.cell? p=w.cell? p
theorem Ce.of_below (h:Below w.heap.size w w'):Ce w w':=⟨h.size,fun p hp=>World.cell?_of_block (h.block _ hp)⟩
theorem Ce.trans (h:Ce w w1) (k:Ce w1 w2):Ce w w2:=⟨Nat.le_trans h.size k.size,fun p hp=>(k.cell p (Nat.lt_of_lt_of_le hp h.size)).trans (h.cell p hp)⟩
theorem Ce.freeze (w:World) (g n:Nat):Ce w (w.freeze ⟨g,0,none⟩ n):=by
 unfold World.freeze
 split
 ·exact⟨Nat.le_refl _,fun _ _=>rfl⟩
 ·refine⟨by simp,fun p hp=>?_⟩
  obtain⟨b,o,sp⟩:=p
  unfold World.cell?
  by_cases hb:g=b
  ·subst hb
   simp only[Array.getElem?_modify,if_pos]
   cases hh:w.heap[g]? with
   | none=>rfl
   | some ob =>
    cases ob <;> rfl
  ·simp only[Array.getElem?_modify,if_neg hb]
theorem lt_of_some {w:World} {k:Nat} {o:Obj} (h:w.heap[k]?=some o):k<w.heap.size:=(Array.getElem?_eq_some_iff.1 h).1
end
section
variable {w:World}{mb m:Nat}
theorem MapIs.is {f:Nat->Option ByteArray} (h:MapIs w mb m f):∃ es c,w.heap[mb]?=some (.map es c):=by
 obtain⟨D,h,_⟩:=h
 obtain⟨es,c,e,_⟩:=h
 exact⟨es,c,e⟩
end
section
variable [Inhabited PrSet]{B:Nat}{w w':World}{db lb mb m k:Nat}{S:Dk}
theorem DkIs.kp (h:DkIs w db lb mb m S) (ho:Off (disk3 db lb mb) w w') (h1:Ow B db) (h2:Ow B lb) (h3:Ow B mb) (hB:B<=w.heap.size):Kp isD B w w':=by
 refine⟨ho.below (fun j hj=>by rcases hj with rfl |rfl |rfl <;> first |exact h1.ge |exact h2.ge |exact h3.ge) hB,fun j o e hn=>?_,fun j o e hn=>(ho.block j (lt_of_some e) (by rintro(rfl |rfl |rfl) <;> first |exact h1.np hn |exact h2.np hn |exact h3.np hn)).trans e⟩
 refine(ho.block j (lt_of_some e) ?_).trans e
 rintro(rfl |rfl |rfl)
 ·rw[h.blk] at e;cases e;exact hn (Or.inl rfl)
 ·obtain⟨cur,fz,e2⟩:=h.row.ty
  rw[e2] at e;cases e;exact hn (Or.inr rfl)
 ·obtain⟨es,c,e2⟩:=h.map.is
  rw[e2] at e;cases e;exact hn trivial
theorem DkIs.kept (h:DkIs w db lb mb m S) (ho:Kp isL B w w'):DkIs w' db lb mb m S:=by
 have e1:w'.heap[lb]?=w.heap[lb]?:=by
  obtain⟨cur,fz,e2⟩:=h.row.ty
  rw[e2];exact ho.block _ _ e2 (by simp[isL])
 have e3:w'.heap[mb]?=w.heap[mb]?:=by
  obtain⟨es,c,e2⟩:=h.map.is
  rw[e2];exact ho.block _ _ e2 (by simp[isL])
 exact⟨ho.block _ _ h.blk (by simp[isL]),h.row.of_block e1 ho.size,h.map.of_block e3,h.ne⟩
structure Ds [Inhabited PrSet] (B:Nat) (w:World) (db k:Nat) (S:Dk):Prop where
 dsk:∃ lb mb m,DkIs w db lb mb m S/\m<=k/\Ow B lb/\Ow B mb
 q:Dq k S
 hd:Ow B db
 lt:B<=w.heap.size
 lp:Ltp w
theorem Ds.below (h:Ds B w db k S) (hb:Below w.heap.size w w'):Ds B w' db k S:=by
 obtain⟨lb,mb,m,h1,h2,h3,h4⟩:=h.dsk
 exact⟨⟨lb,mb,m,h1.below hb,h2,h3,h4⟩,h.q,h.hd,Nat.le_trans h.lt hb.size,h.lp.below hb⟩
theorem Ds.kept (h:Ds B w db k S) {B':Nat} (hb:Kp isL B' w w'):Ds B w' db k S:=by
 obtain⟨lb,mb,m,h1,h2,h3,h4⟩:=h.dsk
 exact⟨⟨lb,mb,m,h1.kept hb,h2,h3,h4⟩,h.q,h.hd,Nat.le_trans h.lt hb.size,h.lp.kp hb⟩
theorem Ds.mono {k':Nat} (h:Ds B w db k S) (hk:k<=k'):Ds B w db k' S:=by
 obtain⟨lb,mb,m,h1,h2,h3,h4⟩:=h.dsk
 exact⟨⟨lb,mb,m,h1,by omega,h3,h4⟩,h.q.mono hk,h.hd,h.lt,h.lp⟩
theorem Ds.turn {m' k':Nat} {S':Dk} (h:Ds B w db k S) (h1:DkIs w db lb mb m S) (h3:Ow B lb) (h4:Ow B mb) (ho:Off (disk3 db lb mb) w w') (hd:DkIs w' db lb mb m' S') (hm:m'<=k') (hq:Dq k' S'):Ds B w' db k' S'/\Kp isD B w w' :=
 ⟨⟨⟨lb,mb,m',hd,hm,h3,h4⟩,hq,h.hd,Nat.le_trans h.lt ho.size,h.lp.kp (h1.kp ho h.hd h3 h4 h.lt)⟩,h1.kp ho h.hd h3 h4 h.lt⟩
theorem Ds.write (h:Ds B w db k S) (hk:k<=1000000000000) (i:Int) (s:ByteArray) (hs:s.size<=9223372036854775807):Calls Tryz.prog 197 #[.pointer (some ⟨db,0,none⟩),.int .i64 i,.string s] w fun e w' =>
  e=.returned (.int .i64 (writeE S i s))/\Ds B w' db (k+1) (writeDk S i s)/\Kp isD B w w':=by
 obtain⟨lb,mb,m,h1,h2,h3,h4⟩:=h.dsk
 refine(Write_any w h1 h.q.ok (by omega) i s hs).mono ?_
 rintro e w' ⟨rfl,d,o⟩
 exact⟨rfl,h.turn h1 h3 h4 o d (by omega) (h.q.write hk i s)⟩
theorem Ds.sync (h:Ds B w db k S) (hk:k<=1000000000000):Calls Tryz.prog 150 #[.pointer (some ⟨db,0,none⟩)] w fun e w' =>
  e=.returned (.int .i64 (syncE S))/\Ds B w' db (k+1) (syncDk S)/\Kp isD B w w':=by
 obtain⟨lb,mb,m,h1,h2,h3,h4⟩:=h.dsk
 refine(Sync_any w h1 h.q.ok (by omega)).mono ?_
 rintro e w' ⟨rfl,d,o⟩
 exact⟨rfl,h.turn h1 h3 h4 o d (by omega) (h.q.sync hk)⟩
theorem Ds.read (h:Ds B w db k S) (hu:S.up=true) (i:Nat) (hi:i<S.n):Calls Tryz.prog 93 #[.pointer (some ⟨db,0,none⟩),.int .i64 (i:Int)] w fun e w' =>
  e=.returned (.tuple #[.string (S.now i),.int .i64 0])/\Below w.heap.size w w':=by
 obtain⟨lb,mb,m,h1,h2,h3,h4⟩:=h.dsk
 exact Read_any w h1 h.q.ok i hi hu
theorem Ds.size (h:Ds B w db k S):Calls Tryz.prog 54 #[.pointer (some ⟨db,0,none⟩)] w fun e w'=>e=.returned (.int .i64 S.n)/\w'=w:=by
 obtain⟨lb,mb,m,h1,h2,h3,h4⟩:=h.dsk
 exact Size_any w h1 h.q.ok.n1
theorem Ds.new (n:Nat) (h1:1<=n) (h2:n<=8192) (w:World) (hp:Ltp w):Calls Tryz.prog 24 #[.int .i64 (n:Int)] w fun e w'=>e=.returned (.tuple #[.pointer (some ⟨w.heap.size+2,0,none⟩),.int .i64 0])/\Ds w.heap.size w' (w.heap.size+2) 0 (newDk n)/\Below w.heap.size w w':=by
 refine(New_any n h1 h2 w).mono ?_
 rintro e w' ⟨rfl,d,b⟩
 exact⟨rfl,⟨⟨_,_,_,d,Nat.le_refl _,hp.ow (Nat.le_refl _) (Nat.le_refl _),hp.ow (Nat.le_refl _) (by omega)⟩,Dq.new h1 h2,hp.ow (Nat.le_refl _) (by omega),b.size,hp.below b⟩,b⟩
end
end Go.Proofs.YtpcnjncgilmehabGreat
