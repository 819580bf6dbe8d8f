import Derived.Test.YtpcnjncgilmehabGreatMbp
import Derived.Deep.RegionHeld3
set_option linter.unusedVariables false
set_option linter.unusedSimpArgs false
set_option maxRecDepth 100000
namespace Go.Proofs.YtpcnjncgilmehabGreat.Tr
open Go.RowKit Go.Maps Go.ChangeMaps
theorem made32:madeCells #[Value.int .u8 0] 32=Array.replicate 32 (.int .u8 0):=by kernel_rfl
theorem v32 (i:Nat) (hi:i<32):(madeCells #[Value.int .u8 0] 32)[i]?=some (.int .u8 0):=by
 rw[made32,Array.getElem?_replicate,if_pos hi]
theorem aw_first (w w1:World) (e:Ending) (h:MdT w w1 e 20 (2001+8006+8006+801*8006)):∃ wb tb X,e=.returned (.pointer (some ⟨wb,0,none⟩))/\Aw w.heap.size w w1 wb tb X (2001+8006+8006+801*8006) 464 0:=by
 obtain⟨wb,d,s,X,tb,W,h1,h2,h3,h4,h5⟩:=h.ex
 exact⟨wb,tb,X,h1,d,s,W,_,464,h2,h3,⟨C1 20,st1,st1,h5,sd1 20 (by omega),rfl⟩,Nat.le_refl _,sh1,h4⟩
set_option maxHeartbeats 4000000 in
theorem awake11 (w:World):Calls Tryz.prog 13 #[] w fun e w'=>e=.returned (.bool true)/\Below w.heap.size w w':=by
 have CM:Hid (Calls Tryz.prog 5 #[.int .i64 20,.int .i64 4] w fun e w'=>∃ wb tb X,e=.returned (.pointer (some ⟨wb,0,none⟩))/\Aw w.heap.size w w' wb tb X (2001+8006+8006+801*8006) 464 0):=(made 20 4 (by omega) (by omega) (by omega) (by omega) w).mono (fun e w' h=>aw_first w w' e h)
 have CH:Hid (∀ wx wb tb X k n,Aw w.heap.size w wx wb tb X k n 0->k<=100000000000->Calls Tryz.prog 22 #[.pointer (some ⟨tb,0,none⟩)] wx fun e w'=>e=.returned (.int .i64 1)/\Aw w.heap.size w w' wb tb X (k+1000000) n 0):=fun wx wb tb X k n h hk=>h.height0 hk
 have CF:Hid (∀ wx wb tb X k n,Aw w.heap.size w wx wb tb X k n 0->k<=100000000000->Calls Tryz.prog 21 #[.pointer (some ⟨tb,0,none⟩)] wx fun e w'=>e=.returned (.int .i64 18)/\Aw w.heap.size w w' wb tb X (k+1000000) n 0):=fun wx wb tb X k n h hk=>h.free0 hk
 have CH2:Hid (∀ wx wb tb X k n,Aw w.heap.size w wx wb tb X k n 10->k<=100000000000->Calls Tryz.prog 22 #[.pointer (some ⟨tb,0,none⟩)] wx fun e w'=>e=.returned (.int .i64 2)/\Aw w.heap.size w w' wb tb X (k+1000000) n 10):=fun wx wb tb X k n h hk=>h.height10 hk
 have CK:Hid (∀ wx wb tb X k n,Aw w.heap.size w wx wb tb X k n 10->k<=100000000000->Calls Tryz.prog 19 #[.pointer (some ⟨tb,0,none⟩)] wx fun e w'=>e=.returned (.bool true)/\Aw w.heap.size w w' wb tb X (k+1000000) n 10):=fun wx wb tb X k n h hk=>h.check10 hk
 have CP:Hid (∀ wx wb tb X k n i,Aw w.heap.size w wx wb tb X k n i->i<10->k<=100000000000->n+2000<=116000->Calls Tryz.prog 44 #[.pointer (some ⟨wb,0,none⟩),.agg #[.string (cI i).k,.string (cI i).v]] wx fun e w'=>e=.returned (.int .i64 0)/\Aw w.heap.size w w' wb tb X (k+7000000) (n+2000) (i+1)):=fun wx wb tb X k n i h hi hk hn=>h.put hi hk hn
 have hmk:∀ w,(Instr.makeSlice 80 (.int .i64 32) (.int .i64 32)).run Tryz.prog w=.ok (.slice (some ⟨w.heap.size,0,none⟩) 32 32) (w.alloc (.cells (madeCells #[.int .u8 0] 32) 5)) :=
  fun w=>run_make_row' 80 5 (.int .u8 0) 1 Tryz.underlying80 (by kernel_rfl) rfl .i64 .i64 32 (by omega) (by omega) w
 have hZ:Hid (∀ (W:World) (b j:Nat),W.heap[b]?=some (.cells (madeCells #[.int .u8 0] 32) 5)->(convert 80 9 (.slice (some ⟨b,0,none⟩) 32 32)).run Tryz.prog W=.ok (.string (cI j).v) W):=(fun W b j hW=>by
  have hs:(cI j).v.size=32:=by show(Array.replicate 32 (0:UInt8)).size=32;simp
  have:=conv_blk (t:=(cI j).v) hW (fun i hi=>by
   have e:=v32 i (by rw[hs] at hi;exact hi)
   rw[e]
   have e2:(cI j).v[i]=0:=by
    show(cI j).v.data[i]=_
    simp[cI]
   rw[e2];rfl) 32
  rw[hs] at this
  exact this:∀ (W:World) (b j:Nat),W.heap[b]?=some (.cells (madeCells #[.int .u8 0] 32) 5)->(convert 80 9 (.slice (some ⟨b,0,none⟩) 32 32)).run Tryz.prog W=.ok (.string (cI j).v) W)
 have hA:Hid (∀ (W:World) (b j:Nat),j<10->W.heap[b]?=some (.cells #[.int .u8 (97+(j:Int))] 5)->(convert 80 9 (.slice (some ⟨b,0,none⟩) 1 1)).run Tryz.prog W=.ok (.string (cI j).k) W):=(fun W b j hj hW=>by
  have:=conv_blk (t:=(cI j).k) hW (fun i hi=>by
   have hi1:i<1:=hi
   obtain rfl:i=0:=by omega
   have e:∀ h,((cI j).k[0]'h).toNat=97+j:=fun h=>by
    show(UInt8.ofNat (97+j)).toNat=97+j
    exact toNat_of _ (by omega)
   rw[e]
   show some (Value.int .u8 (97+(j:Int)))=_
   rw[Int.natCast_add]
   rfl) 1
  exact this:∀ (W:World) (b j:Nat),j<10->W.heap[b]?=some (.cells #[.int .u8 (97+(j:Int))] 5)->(convert 80 9 (.slice (some ⟨b,0,none⟩) 1 1)).run Tryz.prog W=.ok (.string (cI j).k) W)
 obtain⟨M,hM⟩:∃ M,M=madeCells #[Value.int .u8 0] 32:=⟨_,rfl⟩
 rw[← hM] at hmk hZ
 clear hM
 go_enter Tryz.func13,Tryz.ntmps13
 go_wp2_with (first
  | (go_at_call 5;refine CM.out.mono ?_;rintro e w1 ⟨wb,tb,X,rfl,a1⟩;have c4:=a1.c4;have A1:Hid _:=a1;clear a1)
  | (go_at_call 22;refine(CH.out _ _ _ _ _ _ A1.out (by omega)).mono ?_;rintro e w2 ⟨rfl,a2⟩;have d4:=a2.c4;have A2:Hid _:=a2;clear a2)
  | (go_at_call 21;refine(CF.out _ _ _ _ _ _ A2.out (by omega)).mono ?_;rintro e w3 ⟨rfl,a3⟩;have A3:Hid _:=a3;clear a3))
 go_loopw [2] (fun iv wr=>∃ i:Nat,iv=.int .i64 (i:Int)/\i<=10/\Aw w.heap.size w wr wb tb X (10000000+i*7000000) (464+i*2000) i) (fun iv _=>10-(intOf iv).toNat)
 case atStart =>
  refine⟨0,rfl,by omega,?_⟩
  obtain⟨d,s,W,V,n',h1,h2,h3,h4,h5,h6⟩:=A3.out.ex
  obtain⟨C,st,wh,hT,hs,hv⟩:=h3.ex
  exact⟨d,s,W,V,n',h1,h2,⟨C,st,wh,hT.mono (by omega),hs,hv⟩,h4,h5,h6⟩
 case round =>
  obtain⟨i,rfl,hi,hA1⟩:=hrel
  have AA:Hid _:=hA1
  clear hA1
  by_cases hlt:i<10
  ·have hltI:(i:Int)<10:=by omega
   have hw1:IntKind.i64.wrap (97+(i:Int))=97+(i:Int):=by rw[IntKind.wrap_i64];omega
   have hw2:IntKind.u8.wrap (97+(i:Int))=97+(i:Int):=by rw[IntKind.wrap_u8];omega
   have hw3:IntKind.i64.wrap ((i:Int)+1)=(i:Int)+1:=by rw[IntKind.wrap_i64];omega
   have hin:∀ (W:World) (A Z:Obj),((W.alloc A).alloc Z).heap[W.heap.size]?=some A:=fun W A Z=>((Below.refl _ (W.alloc A)).alloc (Nat.le_refl _) Z).block W.heap.size (by simp) |>.trans (MapKept.heap_alloc W A).1
   have hout:∀ (W:World) (A Z:Obj),((W.alloc A).alloc Z).heap[W.heap.size+1]?=some Z:=fun W A Z=>by
    have:=(MapKept.heap_alloc (W.alloc A) Z).1
    have hz:(W.alloc A).heap.size=W.heap.size+1:=by simp
    rw[hz] at this
    exact this
   have e1:∀ W:World,(convert 80 9 (.slice (some ⟨W.heap.size,0,none⟩) 1 1)).run Tryz.prog (W.alloc (.cells #[.int .u8 (97+(i:Int))] 5)).drew=.ok (.string (cI i).k) (W.alloc (.cells #[.int .u8 (97+(i:Int))] 5)).drew:=fun W=>hA.out _ _ i hlt (MapKept.heap_alloc W _).1
   have e2:∀ W:World,(convert 80 9 (.slice (some ⟨W.heap.size,0,none⟩) 1 1)).run Tryz.prog ((W.alloc (.cells #[.int .u8 (97+(i:Int))] 5)).alloc (.cells M 5)).drew=.ok (.string (cI i).k) ((W.alloc (.cells #[.int .u8 (97+(i:Int))] 5)).alloc (.cells M 5)).drew:=fun W=>hA.out _ _ i hlt (hin W _ _)
   have e3:∀ W:World,(convert 80 9 (.slice (some ⟨W.heap.size+1,0,none⟩) 1 1)).run Tryz.prog ((W.alloc (.cells M 5)).alloc (.cells #[.int .u8 (97+(i:Int))] 5)).drew=.ok (.string (cI i).k) ((W.alloc (.cells M 5)).alloc (.cells #[.int .u8 (97+(i:Int))] 5)).drew:=fun W=>hA.out _ _ i hlt (hout W _ _)
   have z1:∀ W:World,(convert 80 9 (.slice (some ⟨W.heap.size,0,none⟩) 32 32)).run Tryz.prog (W.alloc (.cells M 5)).drew=.ok (.string (cI i).v) (W.alloc (.cells M 5)).drew:=fun W=>hZ.out _ _ i (MapKept.heap_alloc W _).1
   have z2:∀ W:World,(convert 80 9 (.slice (some ⟨W.heap.size,0,none⟩) 32 32)).run Tryz.prog ((W.alloc (.cells M 5)).alloc (.cells #[.int .u8 (97+(i:Int))] 5)).drew=.ok (.string (cI i).v) ((W.alloc (.cells M 5)).alloc (.cells #[.int .u8 (97+(i:Int))] 5)).drew:=fun W=>hZ.out _ _ i (hin W _ _)
   have z3:∀ W:World,(convert 80 9 (.slice (some ⟨W.heap.size+1,0,none⟩) 32 32)).run Tryz.prog ((W.alloc (.cells #[.int .u8 (97+(i:Int))] 5)).alloc (.cells M 5)).drew=.ok (.string (cI i).v) ((W.alloc (.cells #[.int .u8 (97+(i:Int))] 5)).alloc (.cells M 5)).drew:=fun W=>hZ.out _ _ i (hout W _ _)
   have QQ:Hid (∀ wx,Below wr.heap.size wr wx->Calls Tryz.prog 44 #[.pointer (some ⟨wb,0,none⟩),.agg #[.string (cI i).k,.string (cI i).v]] wx fun e w'=>e=.returned (.int .i64 0)/\Aw w.heap.size w w' wb tb X (10000000+i*7000000+7000000) (464+i*2000+2000) (i+1)):=(fun wx hb=>CP.out _ _ _ _ _ _ _ (AA.out.below hb) hlt (by omega) (by omega):∀ wx,Below wr.heap.size wr wx->Calls Tryz.prog 44 #[.pointer (some ⟨wb,0,none⟩),.agg #[.string (cI i).k,.string (cI i).v]] wx fun e w'=>e=.returned (.int .i64 0)/\Aw w.heap.size w w' wb tb X (10000000+i*7000000+7000000) (464+i*2000+2000) (i+1))
   have HA:Hid (i<10):=hlt
   have hb1:Below wr.heap.size wr ((wr.alloc (.cells #[.int .u8 (97+(i:Int))] 5)).alloc (.cells M 5)).drew:=(((Below.refl _ wr).alloc (Nat.le_refl _) _).alloc (by simp) _).drew
   have hb2:Below wr.heap.size wr ((wr.alloc (.cells M 5)).alloc (.cells #[.int .u8 (97+(i:Int))] 5)).drew:=(((Below.refl _ wr).alloc (Nat.le_refl _) _).alloc (by simp) _).drew
   clear hin hout CP CH CF CH2 CK CM hA hZ hlt hi
   generalize (cI i).k=kk at *
   generalize (cI i).v=vv at *
   go_wp2
   go_region_with (go_at_call 44;(first |refine(QQ.out _ hb1).mono ?_ |refine(QQ.out _ hb2).mono ?_);rintro e w5 ⟨rfl,a5⟩;have A5:Hid _:=a5;clear a5)
   all_goals
    go_wp2
    go_roundw
    case rel =>
     refine⟨i+1,by first |rfl |(rw[Int.natCast_add];rfl),by have:=HA.out;omega,?_⟩
     rw[show 10000000+(i+1)*7000000=10000000+i*7000000+7000000 by omega,show 464+(i+1)*2000=464+i*2000+2000 by omega]
     exact A5.out
    case measure=>have:=HA.out;simp[intOf];omega
  ·have hltI:¬ (i:Int)<10:=by omega
   obtain rfl:i=10:=by omega
   have f4:=AA.out.c4
   go_wp2_with (first
    | (go_at_call 22;refine(CH2.out _ _ _ _ _ _ AA.out (by omega)).mono ?_;rintro e w5 ⟨rfl,a5⟩;have g4:=a5.c4;have A5:Hid _:=a5;clear a5)
    | (go_at_call 19;refine(CK.out _ _ _ _ _ _ A5.out (by omega)).mono ?_;rintro e w6 ⟨rfl,a6⟩;have A6:Hid _:=a6;clear a6))
   go_ret
   exact⟨rfl,A6.out.bel⟩
end Go.Proofs.YtpcnjncgilmehabGreat.Tr
