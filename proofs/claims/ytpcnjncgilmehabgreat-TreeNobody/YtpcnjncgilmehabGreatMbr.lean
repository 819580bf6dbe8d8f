import Derived.Test.YtpcnjncgilmehabGreatMbq
set_option linter.unusedVariables false
set_option linter.unusedSimpArgs false
set_option maxRecDepth 100000
namespace Go.Proofs.YtpcnjncgilmehabGreat.Tr
open Go.RowKit Go.Maps Go.ChangeMaps
theorem NoL.below {w w':World} {p:Option Addr} (h:NoL w p) (hb:Below w.heap.size w w'):NoL w' p:=⟨fun w2 k=>h.b w2 (hb.trans (k.mono hb.size))⟩
structure Md5 (w0 w:World) (wb l pb:Nat):Prop where
 c2:w.cell? ⟨wb,2,none⟩=some (.pointer (some ⟨l,0,none⟩))
 c3:w.cell? ⟨wb,3,none⟩=some (.pointer (some ⟨pb,0,none⟩))
 bel:Below w0.heap.size w0 w
set_option maxHeartbeats 4000000 in
theorem nobody11_walk (key:ByteArray) (n:Int) (w:World):Calls Tryz.prog 4 #[.string key,.int .i64 n] w fun e w'=>e=.returned (.bool true)/\Below w.heap.size w w':=by
 have CMk:Hid (∀ wx p,NoT wx p->Calls Tryz.prog 9 #[.pointer p,.int .i64 n] wx fun e w'=>e=.returned (.tuple #[])/\w'=wx):=fun wx p h=>nMark h n
 have CG:Hid (∀ wx,Calls Tryz.prog 14 #[.pointer none,.string key] wx fun e w'=>e=.returned (.tuple #[.string eb,.bool false,.int .i64 11])/\Below wx.heap.size wx w'):=fun wx=>nGet (noL_nil wx) key
 have CS:Hid (∀ wx p,NoT wx p->Calls Tryz.prog 15 #[.pointer p,.string key,.string ⟨#[]⟩,.int .i64 5] wx fun e w'=>e=.returned (.tuple #[.slice none 0 0,.int .i64 11])/\w'=wx):=fun wx p h=>nScan h key _ 5
 have CL:Hid (∀ wx,Calls Tryz.prog 16 #[.pointer none,.string key] wx fun e w'=>e=.returned (.tuple #[.int .i64 0,.int .i64 11])/\Below wx.heap.size wx w'):=fun wx=>nLeaf (noL_nil wx) key
 have CP:Hid (∀ wx p,NoT wx p->Calls Tryz.prog 11 #[.pointer p,.string key,.int .i64 1] wx fun e w'=>e=.returned (.tuple #[.int .i64 0,.int .i64 11])/\w'=wx):=fun wx p h=>nPlace h key 1
 have CM:Hid (∀ wx,Calls Tryz.prog 5 #[.int .i64 5,.int .i64 2] wx fun e w'=>∃ wb l pb,e=.returned (.pointer (some ⟨wb,0,none⟩))/\Md5 wx w' wb l pb):=fun wx=>(made 5 2 (by omega) (by omega) (by omega) (by omega) wx).mono (fun e w' h=>by
  obtain⟨wb,d,s,X,tb,W,h1,h2,h3,h4,h5⟩:=h.ex
  exact⟨wb,X.l,X.pb,h1,h2.c2,h2.c3,h4.bel⟩)
 have CC:Hid (∀ wx,Calls Tryz.prog 6 #[.pointer none] wx fun e w'=>e=.returned (.int .i64 11)/\w'=wx):=fun wx=>nCreate (noT_nil wx)
 have CV:Hid (∀ wx p,NoT wx p->Calls Tryz.prog 8 #[.pointer p,.int .i64 n] wx fun e w'=>e=.returned (.int .i64 11)/\w'=wx):=fun wx p h=>nCover h n
 have CH:Hid (∀ wx,Calls Tryz.prog 12 #[.pointer none,.int .i64 n,.int .i64 n,.int .i64 n,.agg #[.string ⟨#[]⟩,.string ⟨#[]⟩]] wx fun e w'=>e=.returned (.int .i64 11)/\Below wx.heap.size wx w'):=fun wx=>nChange (noL_nil wx) n n n _ _
 have CT:Hid (∀ wx p,NoT wx p->Calls Tryz.prog 17 #[.pointer p,.string key] wx fun e w'=>e=.returned (.int .i64 11)/\w'=wx):=fun wx p h=>nTidy h key
 have CB:Hid (∀ wx,Calls Tryz.prog 18 #[.pointer none] wx fun e w'=>e=.returned (.bool false)/\w'=wx):=fun wx=>nBorn (noT_nil wx)
 have CK:Hid (∀ wx p,NoT wx p->Calls Tryz.prog 19 #[.pointer p] wx fun e w'=>e=.returned (.bool false)/\w'=wx):=fun wx p h=>nCheck h
 have CR:Hid (∀ wx,Calls Tryz.prog 20 #[.pointer none] wx fun e w'=>e=.returned (.int .i64 0)/\w'=wx):=fun wx=>nRedo (noT_nil wx)
 have CF:Hid (∀ wx p,NoT wx p->Calls Tryz.prog 21 #[.pointer p] wx fun e w'=>e=.returned (.int .i64 0)/\w'=wx):=fun wx p h=>nFree h
 have CE:Hid (∀ wx,Calls Tryz.prog 22 #[.pointer none] wx fun e w'=>e=.returned (.int .i64 0)/\w'=wx):=fun wx=>nHeight (noT_nil wx)
 have CN1:Hid (∀ wx q,Calls Tryz.prog 23 #[.pointer none,.pointer q] wx fun e w'=>e=.returned (.pointer none)/\w'=wx):=fun wx q=>New_noP wx q
 have CN2:Hid (∀ wx b,Calls Tryz.prog 23 #[.pointer (some ⟨b,0,none⟩),.pointer none] wx fun e w'=>e=.returned (.pointer none)/\w'=wx):=fun wx b=>New_noL wx b
 have CA:Hid (∀ wx,Calls Tryz.prog 13 #[] wx fun e w'=>e=.returned (.bool true)/\Below wx.heap.size wx w'):=fun wx=>awake11 wx
 have Z0:Hid (∀ W:World,NoL (W.alloc (.cells #[.pointer none,.pointer none,.int .i64 0,.map none,.slice none 0 0] 53)) (some ⟨W.heap.size,0,none⟩)):=(fun W=>noL_zero (Joins.cell_of_block (MapKept.heap_alloc W _).1 0) (by simp):∀ W:World,NoL (W.alloc (.cells #[.pointer none,.pointer none,.int .i64 0,.map none,.slice none 0 0] 53)) (some ⟨W.heap.size,0,none⟩))
 have B0:Hid (∀ W:World,Below W.heap.size W (W.alloc (.cells #[.pointer none,.pointer none,.int .i64 0,.map none,.slice none 0 0] 53))):=fun W=>(Below.refl _ _).alloc (Nat.le_refl _) _
 go_enter Tryz.func4,Tryz.ntmps4
 go_wp2_with (first
  | (go_at_call 9;have:=F1;refine(CMk.out _ _ (Z0.out _).t).mono ?_;rintro e w1 ⟨rfl,rfl⟩)
  | (go_at_call 9;refine(CMk.out _ _ (noT_nil _)).mono ?_;rintro e w1 ⟨rfl,rfl⟩;have F1:Hid True:=trivial)
  | (go_at_call 14;refine(CG.out _).mono ?_;rintro e w2 ⟨rfl,b2⟩;have Z2:Hid _:=(Z0.out _).below b2;have T2:Hid _:=(B0.out _).trans (b2.mono (B0.out _).size);clear b2)
  | (go_at_call 15;refine(CS.out _ _ Z2.out.t).mono ?_;rintro e w3 ⟨rfl,hw⟩;subst hw)
  | (go_at_call 16;refine(CL.out _).mono ?_;rintro e w4 ⟨rfl,b4⟩;have Z4:Hid _:=Z2.out.below b4;have T4:Hid _:=T2.out.trans (b4.mono T2.out.size);clear b4 Z2 T2)
  | (go_at_call 11;refine(CP.out _ _ Z4.out.t).mono ?_;rintro e w5 ⟨rfl,hw⟩;subst hw)
  | (go_at_call 5;refine(CM.out _).mono ?_;rintro e w6 ⟨wb,l6,pb6,rfl,m6⟩;have Z6:Hid _:=Z4.out.below m6.bel;have T6:Hid _:=T4.out.trans (m6.bel.mono T4.out.size);have M6:Hid _:=m6;clear m6 Z4 T4)
  | (go_at_call 6;refine(CC.out _).mono ?_;rintro e w7 ⟨rfl,hw⟩;subst hw)
  | (go_at_call 8;refine(CV.out _ _ Z6.out.t).mono ?_;rintro e w8 ⟨rfl,hw⟩;subst hw)
  | (go_at_call 12;refine(CH.out _).mono ?_;rintro e w9 ⟨rfl,b9⟩;have Z9:Hid _:=Z6.out.below b9;have T9:Hid _:=T6.out.trans (b9.mono T6.out.size);have m2:=(Below.cell b9 (World.block_lt_of_cell? _ _ M6.out.c2)).trans M6.out.c2;have m3:=(Below.cell b9 (World.block_lt_of_cell? _ _ M6.out.c3)).trans M6.out.c3;clear b9 Z6 T6)
  | (go_at_call 17;refine(CT.out _ _ Z9.out.t).mono ?_;rintro e w10 ⟨rfl,hw⟩;subst hw)
  | (go_at_call 18;refine(CB.out _).mono ?_;rintro e w11 ⟨rfl,hw⟩;subst hw)
  | (go_at_call 19;refine(CK.out _ _ Z9.out.t).mono ?_;rintro e w12 ⟨rfl,hw⟩;subst hw)
  | (go_at_call 20;refine(CR.out _).mono ?_;rintro e w13 ⟨rfl,hw⟩;subst hw)
  | (go_at_call 21;refine(CF.out _ _ Z9.out.t).mono ?_;rintro e w14 ⟨rfl,hw⟩;subst hw)
  | (go_at_call 22;refine(CE.out _).mono ?_;rintro e w15 ⟨rfl,hw⟩;subst hw)
  | (go_at_call 23;have:=F2;refine(CN2.out _ _).mono ?_;rintro e w16 ⟨rfl,hw⟩;subst hw)
  | (go_at_call 23;refine(CN1.out _ _).mono ?_;rintro e w16 ⟨rfl,hw⟩;subst hw;have F2:Hid True:=trivial)
  | (go_at_call 13;refine(CA.out _).mono ?_;rintro e w17 ⟨rfl,b17⟩;have T17:Hid _:=T9.out.trans (b17.mono T9.out.size);clear b17))
 go_ret
 exact⟨rfl,T17.out⟩
end Go.Proofs.YtpcnjncgilmehabGreat.Tr
