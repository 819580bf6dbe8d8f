import Derived.Test.YtdchjncnjgelhaaGreatMad
set_option linter.unusedVariables false
set_option linter.unusedSimpArgs false
set_option maxRecDepth 100000
namespace Go.Proofs.YtdchjncnjgelhaaGreat.Sm
open Go.RowKit
def tab (i:Nat):Array Value:=(Array.range 16).map fun j=>.int .u32 (vI (if j<i then stn 4 (BitVec.ofNat 32 j) else 0#32))
theorem tab_size (i:Nat):(tab i).size=16:=by simp[tab]
theorem tab_get (i j:Nat) (h:j<16):(tab i)[j]?=some (.int .u32 (vI (if j<i then stn 4 (BitVec.ofNat 32 j) else 0#32))):=by
 unfold tab
 rw[Array.getElem?_map,Array.getElem?_range]
 simp[h]
theorem range16:Array.range 16=#[0,1,2,3,4,5,6,7,8,9,10,11,12,13,14,15]:=by decide
theorem tab_zero:#[.int .u32 0,.int .u32 0,.int .u32 0,.int .u32 0,.int .u32 0,.int .u32 0,.int .u32 0,.int .u32 0,.int .u32 0,.int .u32 0,.int .u32 0,.int .u32 0,.int .u32 0,.int .u32 0,.int .u32 0,.int .u32 0]=tab 0:=by
 unfold tab
 rw[range16]
 simp only[List.map_toArray,List.map_cons,List.map_nil]
 rfl
theorem tab_set (i:Nat) (h:i<16):(tab i).setIfInBounds i (.int .u32 (vI (stn 4 (BitVec.ofNat 32 i))))=tab (i+1):=by
 apply Array.ext_getElem?
 intro j
 by_cases hj:j<16
 ·rw[Array.getElem?_setIfInBounds,tab_get _ _ hj,tab_get _ _ hj,tab_size]
  by_cases hij:i=j
  ·subst hij
   simp[h]
  ·have:(j<i+1)=(j<i):=by simp;omega
   simp[hij,this]
 ·rw[Array.getElem?_eq_none (by simp[tab_size];omega),Array.getElem?_eq_none (by simp[tab_size];omega)]
def xT (j:Nat):Int:=vI (stn 4 (BitVec.ofNat 32 j))
theorem tab_full:tab 16=#[.int .u32 (xT 0),.int .u32 (xT 1),.int .u32 (xT 2),.int .u32 (xT 3),.int .u32 (xT 4),.int .u32 (xT 5),.int .u32 (xT 6),.int .u32 (xT 7),.int .u32 (xT 8),.int .u32 (xT 9),.int .u32 (xT 10),.int .u32 (xT 11),.int .u32 (xT 12),.int .u32 (xT 13),.int .u32 (xT 14),.int .u32 (xT 15)]:=by
 unfold tab
 rw[range16]
 simp only[List.map_toArray,List.map_cons,List.map_nil]
 rfl
theorem fourShifts_any (w:World) :
  Calls Tryz.prog 190 #[] w fun e w'=>e=.returned (.agg (tab 16))/\Below w.heap.size w w':=by
 go_enter Tryz.func190,Tryz.ntmps190
 go_wp2
 rw[tab_zero]
 go_loopw [4] (fun x wr=>∃ i:Nat,i<=16/\x=.int .i64 i/\wr=(w.alloc (.cells (tab 0) 273)).alloc (.cells (tab i) 273)) (fun x _=>16-(intOf x).toNat)
 case atStart=>exact⟨0,by omega,rfl,rfl⟩
 case round =>
  obtain⟨i,hi,rfl,rfl⟩:=hrel
  by_cases hlt:i<16
  ·have hd:decide ((i:Int)<16)=true:=by simp;omega
   have hg:=tab_get i i hlt
   rw[if_neg (Nat.lt_irrefl i)] at hg
   go_wp2
   go_loop [3,9] (fun r j=>∃ k:Nat,k<=4/\j=.int .i64 k/\r=.int .u32 (vI (stn k (BitVec.ofNat 32 i)))) (fun _ j=>4-(intOf j).toNat)
   case atStart =>
    refine⟨0,by omega,rfl,?_⟩
    show _=Value.int .u32 (vI (BitVec.ofNat 32 i))
    rw[vI_lit i (by omega)]
   case round =>
    obtain⟨k,hk,rfl,rfl⟩:=hrel
    by_cases hlt2:k<4
    ·go_wp2_with (go_at_call 198;refine(shift_any _ _).mono ?_;rintro e w' ⟨rfl,rfl⟩)
     go_round
     case rel=>exact⟨k+1,by omega,by go_num,by rw[stn_succ]⟩
     case measure=>simp[intOf];omega
    ·have:k=4:=by omega
     subst this
     go_wp2
     go_roundw
     case rel =>
      exact⟨i+1,by omega,by go_num,by rw[← tab_set i hlt]⟩
     case measure=>simp[intOf];omega
  ·have:i=16:=by omega
   subst this
   rw[tab_full,← tab_zero]
   go_wp2
   refine bodyPost_ret (v:=.agg (tab 16)) ?_ rfl ⟨rfl,?_⟩
   ·rw[tab_full]
    simp[results,Tryz.results19,go_sem]
   ·exact((Below.refl _ _).alloc (Nat.le_refl _) _).alloc (by simp) _
theorem fourShifts_lit (w:World) :
  Calls Tryz.prog 190 #[] w fun e w'=>e=.returned (.agg #[.int .u32 (xT 0),.int .u32 (xT 1),.int .u32 (xT 2),.int .u32 (xT 3),.int .u32 (xT 4),.int .u32 (xT 5),.int .u32 (xT 6),.int .u32 (xT 7),.int .u32 (xT 8),.int .u32 (xT 9),.int .u32 (xT 10),.int .u32 (xT 11),.int .u32 (xT 12),.int .u32 (xT 13),.int .u32 (xT 14),.int .u32 (xT 15)])/\Below w.heap.size w w':=by
 have:=fourShifts_any w
 rw[tab_full] at this
 exact this
end Go.Proofs.YtdchjncnjgelhaaGreat.Sm
