import Derived.Test.YtpcnjncgilmehabGreatMaa
import Derived.Test.YtpcnjncgilmehabGreatProg
import Derived.WalkKit
import Derived.ProofKit
import Derived.WalkSpells
import Derived.WalkLawsBesides
import Derived.Deep.QuietTactic
import Derived.BigQuiet
import Derived.Laws.BytesArg
import Derived.Lib.SmallJoins
import Derived.Laws.BitsAllLaws
set_option linter.unusedVariables false
set_option linter.unusedSimpArgs false
set_option maxRecDepth 100000
namespace Go.Proofs.YtpcnjncgilmehabGreat
open Go.RowKit Go.Maps Go.ChangeMaps Go.Sort
variable {w w':World}{db lb mb m:Nat}{S:Dk}
theorem wpList_store_newL {ops:Array Oper} {rest:List Oper} {o:Oper} {a:Act} {Q:Exit->Act->World->Prop} (w:World) (C:Array Value) (hg:o.guard=none) (x y:Operand) (hop:o.op=Op.store 207 x y)
  (hx:a.eval x=.pointer (some ⟨w.heap.size,0,none⟩)) (cs:List Value) (hy:a.eval y=.agg cs.toArray) (hc:cs.length=64) (h1:∀ v∈cs,v.oneCell'=true) (hC:C.size=64)
  (h:wpList Tryz.prog ops Q rest (a.put o.dst undef) (w.alloc (.cells cs.toArray 207))):wpList Tryz.prog ops Q (o ::rest) a (w.alloc (.cells C 207)):=by
 refine wpList_plain hg fun K' hK'=>?_
 have hs:cs.toArray.size=64:=by simp[hc]
 have hrun:=run_storeAt_new (P:=Tryz.prog) w 207 C cs.toArray (by rw[hs];exact info64) (by rw[hC,hs]) (all_oneCell_toArray h1)
 unfold Oper.wp
 simp[execOp,hop,hx,hy,hrun,Result.andThen]
 exact hK' _ _ h
theorem grownBy_setCells (w:World) (b o:Nat) (vs:List Value):w.grownBy (w.setCells b o vs) (some b):=by
 obtain⟨h1,h2,h3,h4,h5⟩:=setCells_facts b vs o w
 exact⟨h1,h2,h3,by rw[h4];exact Nat.le_refl _,fun k _ hk=>h5 k (fun e=>hk (by rw[e]))⟩
theorem grownBy_drew (w:World):w.grownBy w.drew none:=⟨rfl,rfl,rfl,Nat.le_refl _,fun _ _ _=>rfl⟩
theorem SecRow.congr {w:World} {lb n:Nat} {f g:Nat->ByteArray} (h:SecRow w lb n f) (hg:∀ i,i<n->f i=g i):SecRow w lb n g :=
 ⟨h.lt,fun i hi=>by rw[← hg i hi];exact h.at_ i hi,h.there,fun i hi=>by rw[← hg i hi];exact h.size i hi,h.ty⟩
theorem DkIs.congr (h:DkIs w db lb mb m S) {f:Nat->ByteArray} (hg:∀ i,i<S.n->S.sure i=f i):DkIs w db lb mb m {S with sure:=f}:=⟨h.blk,h.row.congr hg,h.map,h.ne⟩
def SyncV (S:Dk) (left:Lit->Bool) (f:Nat->ByteArray):Prop:=∀ i:Nat,f i=if left (.int .i64 (i:Int))=true then S.sure i else S.now i
theorem SyncV.start {D:DataW Unit} (hv:MapV D S.wait):SyncV S (Maps.has D) S.sure:=fun i=>by
 rw[hv.has]
 cases hw:S.wait i <;> simp[Dk.now,hw]
theorem SyncV.step {left:Lit->Bool} {f:Nat->ByteArray} (h:SyncV S left f) {i:Nat} {c:ByteArray} (hc:S.wait i=some c):SyncV S (fun z=>left z&&!z.sameKey (.int .i64 (i:Int))) (upd f i c):=fun j=>by
 by_cases e:j=i
 ·subst e;simp[upd_same,Dk.now,hc,Lit.sameKey]
 ·have:¬ ((j:Int)=(i:Int)):=by omega
  rw[upd_other _ _ e,h j];simp[Lit.sameKey,this]
def syncE (S:Dk):Int:=if S.up then actE S else 9
def syncDk (S:Dk):Dk:=if S.up then(if actE S=0 then {actDk S with sure:=S.now,wait:=fun _=>none} else actDk S) else S
theorem syncDk_ok {S:Dk} (hS:S.Ok) (hd:S.downs<10000000000000) (ha:S.acts<10000000000000):(syncDk S).Ok:=by
 have h:=actDk_ok hS hd ha
 unfold syncDk
 split
 ·split
  ·exact⟨h.n1,h.n2,fun i c h=>(by cases h),h.l0,h.l1,h.k0,h.k1,h.a0,h.a1,h.d0,h.d1⟩
  ·exact h
 ·exact hS
set_option maxHeartbeats 2000000 in
theorem Sync_any (w:World) (h:DkIs w db lb mb m S) (hS:S.Ok) (hm:m<=10000000000000):Calls Tryz.prog 150 #[.pointer (some ⟨db,0,none⟩)] w fun e w' =>
  e=.returned (.int .i64 (syncE S))/\DkIs w' db lb mb m (syncDk S)/\Off (disk3 db lb mb) w w':=by
 have C:Hid (∀ w,DkIs w db lb mb m S->Calls Tryz.prog 195 #[.pointer (some ⟨db,0,none⟩)] w fun e w'=>e=.returned (.int .i64 (refI S.up))/\w'=w):=fun w h=>refusal_any w h hS.n1
 have CA:Hid (∀ w,DkIs w db lb mb m S->Calls Tryz.prog 199 #[.pointer (some ⟨db,0,none⟩)] w fun e w' =>
  e=.returned (.int .i64 (actE S))/\DkIs w' db lb mb m (actDk S)/\Off (disk3 db lb mb) w w'):=fun w h=>act_any w h hS hm
 have H:Hid _:=h
 have hn1:=hS.n1
 have hn2:=hS.n2
 clear h
 cases hu:S.up
 ·have e0:refI false=9:=rfl
  rw[hu,e0] at C
  have e1:syncE S=9:=by simp[syncE,hu]
  have e2:syncDk S=S:=by simp[syncDk,hu]
  rw[e1,e2]
  go_enter Tryz.func150,Tryz.ntmps150
  go_wp2_with (go_at_call 195;refine(C.out _ H.out).mono ?_;rintro e w' ⟨rfl,rfl⟩)
  go_ret
  exact⟨rfl,H.out,Off.refl _ _⟩
 have e0:refI true=0:=rfl
 rw[hu,e0] at C
 rcases actE_is S with ha |ha
 ·have e1:syncE S=0:=by simp[syncE,hu,ha]
  have e2:syncDk S={actDk S with sure:=S.now,wait:=fun _=>none}:=by simp[syncDk,hu,ha]
  rw[e1,e2]
  rw[ha] at CA
  obtain⟨g1,g2,g3⟩:=actDk_go ha
  have g4:=actDk_n S
  obtain⟨S1,hS1⟩:∃ S1,S1=actDk S:=⟨_,rfl⟩
  rw[← hS1] at CA g1 g2 g3 g4 ⊢
  have HS:Hid _:=g1
  have HS2:Hid _:=g2
  have HS4:Hid _:=g4
  clear g1 g2 g3 g4 hS1 e1 e2
  go_enter Tryz.func150,Tryz.ntmps150
  go_wp2_with (first |(go_at_call 195;refine(C.out _ H.out).mono ?_;rintro e w' ⟨rfl,rfl⟩) |(go_at_call 199;refine(CA.out _ H.out).mono ?_;rintro e w1 ⟨rfl,hD,ho⟩;have hc1:=hD.c1;have hDm:MapIs w1 mb m S.wait:=(by rw[← HS.out];exact hD.map);obtain⟨D,hown,hv⟩:=hDm) |(at_range;refine wpList_range_own _ rfl _ 117 rfl 3 207 law3 Tryz.underlying117 _ mb m _ rfl hown ?_;intro w0 hrg0 hg0 hs0))
  go_frame
  go_loopw [5] (fun _ wr=>∃ (left:Lit->Bool) (cnt:Nat) (f:Nat->ByteArray),wr.ranges Tryz.prog 3 secR mb w1.heap.size m D left cnt/\Hid (SyncV S left f)/\DkIs wr db lb mb m {S1 with sure:=f}/\Off (disk3 db lb mb) w1 wr)
   (fun _ wr=>wr.rangeLeft mb w1.heap.size)
  case atStart =>
   refine⟨_,_,S.sure,hrg0,SyncV.start hv,?_,(Off.refl _ _).grown hg0 (fun k e=>by cases e)⟩
   have e:{S1 with sure:=S.sure}=S1:=by rw[← HS2.out]
   rw[e]
   exact hD.off (B:=fun _=>False) ((Off.refl _ _).grown hg0 (fun k e=>by cases e)) (fun h=>h) (fun h=>h) (fun h=>h)
  case round =>
   obtain⟨left,cnt,f,hrg,hY,hDr,hoff⟩:=hrel
   go_wp2_with (first
    | (at_next;refine wpList_next_ranges _ rfl _ rfl 3 law3 secR (Value.int .i64) (fun cs:List Value=>Value.agg cs.toArray) (fun key kl hk=>by obtain⟨x,hx,_⟩:=Maps.keyOf_int_inv Tryz.underlying3 hk;exact⟨x,hx⟩) (fun v y hv=>by obtain⟨cs,rfl⟩:=secR_agg hv;exact⟨cs.toList,by simp⟩) mb w1.heap.size m _ _ _ rfl hrg ?_ ?_))
   ·intro hc0 hl0
    obtain⟨w2,hrun,hm2,ht⟩:=hDr.map.clear
    have hD2:=hDr.turned (by simp only[HS4.out];exact hn1) ht hm2
    have d1:=hDr.c1
    have HD:Hid _:=hD2
    have HT:Hid _:=ht
    have HF:Hid (∀ i,f i=S.now i):=fun i=>by have:=hY.out i;rw[hl0] at this;simpa using this
    clear hD2 ht hm2
    go_wp2
    go_ret
    exact⟨rfl,(HD.out.mono (Nat.zero_le _)).congr (f:=S.now) (fun i _=>HF.out i),(ho.trans hoff).turned HT.out (fun _=>d3c _ _ _)⟩
   ·intro x cs kl yd yp w2 cnt2 hkey hlk hv2 hat hrg2 hlt hg2 hs2 hen
    obtain⟨x',ex,rfl,_⟩:=Maps.keyOf_int_inv Tryz.underlying3 hkey
    cases ex
    obtain⟨i,hix⟩:=hv.keys _ (has_true_of_atKey hat)
    have hxi:x=(i:Int):=by simpa using hix
    subst hxi
    have hwi:(S.wait i).isSome=true:=by rw[← hv.has];exact has_true_of_atKey hat
    obtain⟨c,hc⟩:=Option.isSome_iff_exists.1 hwi
    have hin:=hS.wait i c hc
    have hcs:cs=secL c:=by
     have h1:=hv.at_ i c hc (.lit (.bool false))
     rw[hat] at h1
     rw[h1] at hv2
     have:=secR_inv hv2
     simpa[secV] using this
    have hcl:cs.length=64:=by rw[hcs,secL_length,hin.2]
    have hone:∀ v∈cs,v.oneCell'=true:=by rw[hcs];exact secL_one c
    have hD2:DkIs w2 db lb mb m {S1 with sure:=f}:=hDr.off (B:=fun k=>k=w1.heap.size) ((Off.refl _ _).grown hg2 (fun k e _=>by cases e;rfl)) (fun e=>by have:=hD.lt;omega) (fun e=>by have:=hD.row.lt;omega) (fun e=>by have:=hD.map.lt;omega)
    have hDl:=hD.lt
    have hDb:=hD.row.lt
    have hDm:=hD.map.lt
    have h12:=hoff.size
    have hmne:mb≠lb:=hDr.mlb (by simp only[HS4.out];exact hn1)
    have hoff2:Off (disk3 db lb mb) w1 w2:=hoff.grown hg2 (fun k e hk=>by cases e;omega)
    have HC:Hid _:=hcs
    have HL:Hid _:=hcl
    have HS3:Hid _:=hs2
    clear hs2 hcs hwi hv2 hat hix hkey
    go_wp2_with (first |(refine wpList_alloc64 _ rfl rfl ?_) |(refine wpList_store_newL _ _ rfl _ _ rfl rfl cs rfl HL.out hone zsz ?_))
    have hDa:DkIs (w2.alloc (.cells cs.toArray 207)).drew db lb mb m {S1 with sure:=f}:=(hD2.below ((Below.refl _ _).alloc (Nat.le_refl _) _)).drew
    have d0:=hDa.c0
    have hbo:(w2.alloc (.cells cs.toArray 207)).drew.heap[w2.heap.size]?=some (.cells cs.toArray 207):=(MapKept.heap_alloc w2 _).1
    have hra:(w2.alloc (.cells cs.toArray 207)).drew.rangeAt w2.heap.size 0 cs:=fun j v hv=>by
     rw[Joins.cell_of_block hbo];simpa using hv
    have hlbx:lb<w2.heap.size:=hD2.row.lt
    have hth:(w2.alloc (.cells cs.toArray 207)).drew.there lb (i*64) cs.toArray.size:=by simp only[List.size_toArray,hcl];exact hDa.row.there i (by simp only[HS4.out];exact hin.1)
    have hinf:(Tryz.prog.info? 207).map (·.size)=some cs.toArray.size:=by simp only[List.size_toArray,hcl];exact info64
    have hinf2:(Tryz.prog.info? 207).map (·.size)=some cs.length:=by rw[hcl];exact info64
    have hrow:=row64
    have hn64:S1.n=S.n:=HS4.out
    rw[show({S1 with sure:=f}:Dk).n=S.n from hn64] at d0
    have hiI:(i:Int)<(S.n:Int):=by have:=hin.1;omega
    have hi64:i<S.n:=hin.1
    have HK:Hid (((w2.alloc (.cells cs.toArray 207)).drew.setCells lb (i*64) cs).cell? ⟨db,0,none⟩=some (.slice (some ⟨lb,0,none⟩) S.n S.n)/\((w2.alloc (.cells cs.toArray 207)).drew.setCells lb (i*64) cs).rangeAt w2.heap.size 0 cs):=by
     show _/\_
     have h5:=(setCells_facts lb cs (i*64) (w2.alloc (.cells cs.toArray 207)).drew).2.2.2.2
     exact⟨(World.cell?_of_block (h5 db hD.ne)).trans d0,World.rangeAt_setCells_apart hra _ _ _ (Or.inl (by omega))⟩
    have HD:Hid _:=hDa
    have HRG:Hid (w2.ranges Tryz.prog 3 secR mb w1.heap.size m D (fun z=>left z&&!z.sameKey (.int .i64 (i:Int))) cnt2):=hrg2
    clear hDa hcl hbo hn64 hrg2
    go_region_held_law (fun w'=>w'.cell? ⟨db,0,none⟩=some (.slice (some ⟨lb,0,none⟩) S.n S.n)/\w'.rangeAt w2.heap.size 0 cs) (first |exact⟨d0,hra⟩ |exact HK.out) (fail)
    have hne1:w1.heap.size≠lb:=by omega
    have hrg3:=((HRG.out.alloc (.cells cs.toArray 207)).kept (grownBy_drew _) (by simp) (by simp)).kept (grownBy_setCells _ lb (i*64) cs) (fun e=>hmne (by cases e;rfl)) (fun e=>hne1 (by cases e;rfl))
    go_wp2
    refine⟨⟨_,cnt2,upd f i c,hrg3,hY.out.step hc,?_,((hoff2.alloc _).drew).setCells (d3b _ _ _) _ _⟩,by rw[hrg3.left_eq,hrg.left_eq];exact hlt⟩
    have:=HD.out.rowput (by simp only[HS4.out];exact hn1) (i:=i) (by simp only[HS4.out];exact hin.1) hin.2
    rw[← HC.out] at this
    exact this
 ·have e1:syncE S=9:=by simp[syncE,hu,ha]
  have e2:syncDk S=actDk S:=by simp[syncDk,hu,ha]
  rw[e1,e2]
  rw[ha] at CA
  go_enter Tryz.func150,Tryz.ntmps150
  go_wp2_with (first |(go_at_call 195;refine(C.out _ H.out).mono ?_;rintro e w' ⟨rfl,rfl⟩) |(go_at_call 199;refine(CA.out _ H.out).mono ?_;rintro e w1 ⟨rfl,hD,ho⟩))
  go_ret
  exact⟨rfl,hD,ho⟩
variable {S:Dk}
def wrDk (S:Dk) (i:Nat) (s:ByteArray):Dk:={S with acts:=S.acts+1,wait:=upd S.wait i (some (pad s))}
structure G (k:Int) (u:Bool) (S:Dk):Prop where
 ok:S.Ok
 up:S.up=u
 set:S.set=false
 acts:S.acts<=k
 downs:S.downs<=k
def tA:ByteArray:=⟨#[97]⟩
def upOff (S:Dk) (x:Int):Dk:={offDk S x with up:=true}
theorem n3:(upOff (wrDk (newDk 2) 0 tA) 0).now 0=pad ⟨#[]⟩:=by
 simp[Dk.now,upOff,offDk,lossF,wrDk,upd_same,bitK,newDk,pad];rfl
end Go.Proofs.YtpcnjncgilmehabGreat
namespace Go.Proofs.YtpcnjncgilmehabGreat.Pk
open Go.RowKit
theorem isWidth_any (n:Int) (w:World) :
  Calls Tryz.prog 145 #[.int .i64 n] w fun e w'=>e=.returned (.bool (decide (1<=n)&&decide (n<=6)))/\w'=w:=by
 by_cases h1:1<=n
 ·have h1':decide (1<=n)=true:=by simpa using h1
  go_enter Tryz.func145,Tryz.ntmps145
  go_wp2
  go_ret
  exact⟨by simp[h1],rfl⟩
 ·have h1':decide (1<=n)=false:=by simpa using h1
  go_enter Tryz.func145,Tryz.ntmps145
  go_wp2
  go_ret
  exact⟨by simp,rfl⟩
def limI (k:Nat):Int:=(256:Int) ^ k
def be (n:Nat):Nat->List UInt8
 | 0=>[]
 | k+1=>UInt8.ofNat (n / 256 ^ k % 256) :: be n k
def beS (n k:Nat):ByteArray:=⟨(be n k).toArray⟩
theorem be_length (n k:Nat):(be n k).length=k:=by induction k <;> simp[be, *]
theorem beS_size (n k:Nat):(beS n k).size=k:=by simp[beS,ByteArray.size,be_length]
theorem byte_0 (n:Nat):((n:Int) % 256).toNat=n % 256:=by omega
theorem byte_1 (n:Nat):((n:Int) / 256 % 256).toNat=n / 256 % 256:=by omega
theorem byte_2 (n:Nat):((n:Int) / 65536 % 256).toNat=n / 65536 % 256:=by omega
theorem byte_3 (n:Nat):((n:Int) / 16777216 % 256).toNat=n / 16777216 % 256:=by omega
theorem byte_4 (n:Nat):((n:Int) / 4294967296 % 256).toNat=n / 4294967296 % 256:=by omega
theorem byte_5 (n:Nat):((n:Int) / 1099511627776 % 256).toNat=n / 1099511627776 % 256:=by omega
theorem beS_1 (n:Nat):beS n 1=⟨#[UInt8.ofNat (n % 256)]⟩:=by
 simp[beS,be]
set_option maxHeartbeats 1000000 in
theorem num_1 (n:Nat) (w:World) (hn:n<=281474976710656) :
  Calls Tryz.prog 178 #[.int .i64 n,.int .i64 1] w fun e w'=>e=.returned (.string (beS n 1))/\Below w.heap.size w w':=by
 have hmf:∀ (fn:Fn) (first cap:Array Value) (w:World),(Instr.makeFunc fn first cap).run Tryz.prog w=.ok (.func fn first cap) w:=fun _ _ _ _=>rfl
 have hmk:∀ w,(Instr.makeSlice 80 (.int .i64 0) (.int .i64 6)).run Tryz.prog w=.ok (.slice (some ⟨w.heap.size,0,none⟩) 0 6) (w.alloc (.cells #[.int .u8 0,.int .u8 0,.int .u8 0,.int .u8 0,.int .u8 0,.int .u8 0] 5)):=fun _=>by kernel_rfl
 go_enter Tryz.func178,Tryz.ntmps178
 go_wp2
 refine wp_loop_rounds 2 ?_
 rw[rounds_succ]
 go_wp2
 go_end0
 go_wp2
 rw[rounds_succ]
 go_wp2
 rw[run_convert_bytes_arg (P:=Tryz.prog) _ 80 5 Tryz.underlying80 Tryz.underlying5 w.heap.size 0 1 6 [(n:Int) % 256] rfl ?hc 9 Tryz.underlying9]
 case hc =>
  intro i hi
  have:i=0:=by omega
  rcases this with rfl <;> simp[go_sem]
 go_wp2
 go_ret
 refine⟨?_,?_⟩
 ·rw[beS_1]
  exact congrArg (fun b=>Ending.returned (.string b)) (by simp[strOfNums,byte_0])
 ·repeat (first |exact Below.refl _ _ |refine Below.alloc ?_ (by simp <;> omega) _)
theorem beS_2 (n:Nat):beS n 2=⟨#[UInt8.ofNat (n / 256 % 256),UInt8.ofNat (n % 256)]⟩:=by
 simp[beS,be]
set_option maxHeartbeats 1000000 in
theorem num_2 (n:Nat) (w:World) (hn:n<=281474976710656) :
  Calls Tryz.prog 178 #[.int .i64 n,.int .i64 2] w fun e w'=>e=.returned (.string (beS n 2))/\Below w.heap.size w w':=by
 have hmf:∀ (fn:Fn) (first cap:Array Value) (w:World),(Instr.makeFunc fn first cap).run Tryz.prog w=.ok (.func fn first cap) w:=fun _ _ _ _=>rfl
 have hmk:∀ w,(Instr.makeSlice 80 (.int .i64 0) (.int .i64 6)).run Tryz.prog w=.ok (.slice (some ⟨w.heap.size,0,none⟩) 0 6) (w.alloc (.cells #[.int .u8 0,.int .u8 0,.int .u8 0,.int .u8 0,.int .u8 0,.int .u8 0] 5)):=fun _=>by kernel_rfl
 go_enter Tryz.func178,Tryz.ntmps178
 go_wp2
 refine wp_loop_rounds 3 ?_
 rw[rounds_succ]
 go_wp2
 go_end0
 go_wp2
 rw[rounds_succ]
 go_wp2
 go_end0
 go_wp2
 rw[rounds_succ]
 go_wp2
 rw[run_convert_bytes_arg (P:=Tryz.prog) _ 80 5 Tryz.underlying80 Tryz.underlying5 w.heap.size 0 2 6 [(n:Int) / 256 % 256,(n:Int) % 256] rfl ?hc 9 Tryz.underlying9]
 case hc =>
  intro i hi
  have:i=0∨i=1:=by omega
  rcases this with rfl |rfl <;> simp[go_sem]
 go_wp2
 go_ret
 refine⟨?_,?_⟩
 ·rw[beS_2]
  exact congrArg (fun b=>Ending.returned (.string b)) (by simp[strOfNums,byte_0,byte_1])
 ·repeat (first |exact Below.refl _ _ |refine Below.alloc ?_ (by simp <;> omega) _)
theorem beS_3 (n:Nat):beS n 3=⟨#[UInt8.ofNat (n / 65536 % 256),UInt8.ofNat (n / 256 % 256),UInt8.ofNat (n % 256)]⟩:=by
 simp[beS,be]
set_option maxHeartbeats 1000000 in
theorem num_3 (n:Nat) (w:World) (hn:n<=281474976710656) :
  Calls Tryz.prog 178 #[.int .i64 n,.int .i64 3] w fun e w'=>e=.returned (.string (beS n 3))/\Below w.heap.size w w':=by
 have hmf:∀ (fn:Fn) (first cap:Array Value) (w:World),(Instr.makeFunc fn first cap).run Tryz.prog w=.ok (.func fn first cap) w:=fun _ _ _ _=>rfl
 have hmk:∀ w,(Instr.makeSlice 80 (.int .i64 0) (.int .i64 6)).run Tryz.prog w=.ok (.slice (some ⟨w.heap.size,0,none⟩) 0 6) (w.alloc (.cells #[.int .u8 0,.int .u8 0,.int .u8 0,.int .u8 0,.int .u8 0,.int .u8 0] 5)):=fun _=>by kernel_rfl
 go_enter Tryz.func178,Tryz.ntmps178
 go_wp2
 refine wp_loop_rounds 4 ?_
 rw[rounds_succ]
 go_wp2
 go_end0
 go_wp2
 rw[rounds_succ]
 go_wp2
 go_end0
 go_wp2
 rw[rounds_succ]
 go_wp2
 go_end0
 go_wp2
 rw[rounds_succ]
 go_wp2
 rw[run_convert_bytes_arg (P:=Tryz.prog) _ 80 5 Tryz.underlying80 Tryz.underlying5 w.heap.size 0 3 6 [(n:Int) / 65536 % 256,(n:Int) / 256 % 256,(n:Int) % 256] rfl ?hc 9 Tryz.underlying9]
 case hc =>
  intro i hi
  have:i=0∨i=1∨i=2:=by omega
  rcases this with rfl |rfl |rfl <;> simp[go_sem]
 go_wp2
 go_ret
 refine⟨?_,?_⟩
 ·rw[beS_3]
  exact congrArg (fun b=>Ending.returned (.string b)) (by simp[strOfNums,byte_0,byte_1,byte_2])
 ·repeat (first |exact Below.refl _ _ |refine Below.alloc ?_ (by simp <;> omega) _)
theorem beS_4 (n:Nat):beS n 4=⟨#[UInt8.ofNat (n / 16777216 % 256),UInt8.ofNat (n / 65536 % 256),UInt8.ofNat (n / 256 % 256),UInt8.ofNat (n % 256)]⟩:=by
 simp[beS,be]
set_option maxHeartbeats 1000000 in
theorem num_4 (n:Nat) (w:World) (hn:n<=281474976710656) :
  Calls Tryz.prog 178 #[.int .i64 n,.int .i64 4] w fun e w'=>e=.returned (.string (beS n 4))/\Below w.heap.size w w':=by
 have hmf:∀ (fn:Fn) (first cap:Array Value) (w:World),(Instr.makeFunc fn first cap).run Tryz.prog w=.ok (.func fn first cap) w:=fun _ _ _ _=>rfl
 have hmk:∀ w,(Instr.makeSlice 80 (.int .i64 0) (.int .i64 6)).run Tryz.prog w=.ok (.slice (some ⟨w.heap.size,0,none⟩) 0 6) (w.alloc (.cells #[.int .u8 0,.int .u8 0,.int .u8 0,.int .u8 0,.int .u8 0,.int .u8 0] 5)):=fun _=>by kernel_rfl
 go_enter Tryz.func178,Tryz.ntmps178
 go_wp2
 refine wp_loop_rounds 5 ?_
 rw[rounds_succ]
 go_wp2
 go_end0
 go_wp2
 rw[rounds_succ]
 go_wp2
 go_end0
 go_wp2
 rw[rounds_succ]
 go_wp2
 go_end0
 go_wp2
 rw[rounds_succ]
 go_wp2
 go_end0
 go_wp2
 rw[rounds_succ]
 go_wp2
 rw[run_convert_bytes_arg (P:=Tryz.prog) _ 80 5 Tryz.underlying80 Tryz.underlying5 w.heap.size 0 4 6 [(n:Int) / 16777216 % 256,(n:Int) / 65536 % 256,(n:Int) / 256 % 256,(n:Int) % 256] rfl ?hc 9 Tryz.underlying9]
 case hc =>
  intro i hi
  have:i=0∨i=1∨i=2∨i=3:=by omega
  rcases this with rfl |rfl |rfl |rfl <;> simp[go_sem]
 go_wp2
 go_ret
 refine⟨?_,?_⟩
 ·rw[beS_4]
  exact congrArg (fun b=>Ending.returned (.string b)) (by simp[strOfNums,byte_0,byte_1,byte_2,byte_3])
 ·repeat (first |exact Below.refl _ _ |refine Below.alloc ?_ (by simp <;> omega) _)
theorem beS_5 (n:Nat):beS n 5=⟨#[UInt8.ofNat (n / 4294967296 % 256),UInt8.ofNat (n / 16777216 % 256),UInt8.ofNat (n / 65536 % 256),UInt8.ofNat (n / 256 % 256),UInt8.ofNat (n % 256)]⟩:=by
 simp[beS,be]
set_option maxHeartbeats 1000000 in
theorem num_5 (n:Nat) (w:World) (hn:n<=281474976710656) :
  Calls Tryz.prog 178 #[.int .i64 n,.int .i64 5] w fun e w'=>e=.returned (.string (beS n 5))/\Below w.heap.size w w':=by
 have hmf:∀ (fn:Fn) (first cap:Array Value) (w:World),(Instr.makeFunc fn first cap).run Tryz.prog w=.ok (.func fn first cap) w:=fun _ _ _ _=>rfl
 have hmk:∀ w,(Instr.makeSlice 80 (.int .i64 0) (.int .i64 6)).run Tryz.prog w=.ok (.slice (some ⟨w.heap.size,0,none⟩) 0 6) (w.alloc (.cells #[.int .u8 0,.int .u8 0,.int .u8 0,.int .u8 0,.int .u8 0,.int .u8 0] 5)):=fun _=>by kernel_rfl
 go_enter Tryz.func178,Tryz.ntmps178
 go_wp2
 refine wp_loop_rounds 6 ?_
 rw[rounds_succ]
 go_wp2
 go_end0
 go_wp2
 rw[rounds_succ]
 go_wp2
 go_end0
 go_wp2
 rw[rounds_succ]
 go_wp2
 go_end0
 go_wp2
 rw[rounds_succ]
 go_wp2
 go_end0
 go_wp2
 rw[rounds_succ]
 go_wp2
 go_end0
 go_wp2
 rw[rounds_succ]
 go_wp2
 rw[run_convert_bytes_arg (P:=Tryz.prog) _ 80 5 Tryz.underlying80 Tryz.underlying5 w.heap.size 0 5 6 [(n:Int) / 4294967296 % 256,(n:Int) / 16777216 % 256,(n:Int) / 65536 % 256,(n:Int) / 256 % 256,(n:Int) % 256] rfl ?hc 9 Tryz.underlying9]
 case hc =>
  intro i hi
  have:i=0∨i=1∨i=2∨i=3∨i=4:=by omega
  rcases this with rfl |rfl |rfl |rfl |rfl <;> simp[go_sem]
 go_wp2
 go_ret
 refine⟨?_,?_⟩
 ·rw[beS_5]
  exact congrArg (fun b=>Ending.returned (.string b)) (by simp[strOfNums,byte_0,byte_1,byte_2,byte_3,byte_4])
 ·repeat (first |exact Below.refl _ _ |refine Below.alloc ?_ (by simp <;> omega) _)
theorem beS_6 (n:Nat):beS n 6=⟨#[UInt8.ofNat (n / 1099511627776 % 256),UInt8.ofNat (n / 4294967296 % 256),UInt8.ofNat (n / 16777216 % 256),UInt8.ofNat (n / 65536 % 256),UInt8.ofNat (n / 256 % 256),UInt8.ofNat (n % 256)]⟩:=by
 simp[beS,be]
set_option maxHeartbeats 1000000 in
theorem num_6 (n:Nat) (w:World) (hn:n<=281474976710656) :
  Calls Tryz.prog 178 #[.int .i64 n,.int .i64 6] w fun e w'=>e=.returned (.string (beS n 6))/\Below w.heap.size w w':=by
 have hmf:∀ (fn:Fn) (first cap:Array Value) (w:World),(Instr.makeFunc fn first cap).run Tryz.prog w=.ok (.func fn first cap) w:=fun _ _ _ _=>rfl
 have hmk:∀ w,(Instr.makeSlice 80 (.int .i64 0) (.int .i64 6)).run Tryz.prog w=.ok (.slice (some ⟨w.heap.size,0,none⟩) 0 6) (w.alloc (.cells #[.int .u8 0,.int .u8 0,.int .u8 0,.int .u8 0,.int .u8 0,.int .u8 0] 5)):=fun _=>by kernel_rfl
 go_enter Tryz.func178,Tryz.ntmps178
 go_wp2
 refine wp_loop_rounds 7 ?_
 rw[rounds_succ]
 go_wp2
 go_end0
 go_wp2
 rw[rounds_succ]
 go_wp2
 go_end0
 go_wp2
 rw[rounds_succ]
 go_wp2
 go_end0
 go_wp2
 rw[rounds_succ]
 go_wp2
 go_end0
 go_wp2
 rw[rounds_succ]
 go_wp2
 go_end0
 go_wp2
 rw[rounds_succ]
 go_wp2
 go_end0
 go_wp2
 rw[rounds_succ]
 go_wp2
 rw[run_convert_bytes_arg (P:=Tryz.prog) _ 80 5 Tryz.underlying80 Tryz.underlying5 w.heap.size 0 6 6 [(n:Int) / 1099511627776 % 256,(n:Int) / 4294967296 % 256,(n:Int) / 16777216 % 256,(n:Int) / 65536 % 256,(n:Int) / 256 % 256,(n:Int) % 256] rfl ?hc 9 Tryz.underlying9]
 case hc =>
  intro i hi
  have:i=0∨i=1∨i=2∨i=3∨i=4∨i=5:=by omega
  rcases this with rfl |rfl |rfl |rfl |rfl |rfl <;> simp[go_sem]
 go_wp2
 go_ret
 refine⟨?_,?_⟩
 ·rw[beS_6]
  exact congrArg (fun b=>Ending.returned (.string b)) (by simp[strOfNums,byte_0,byte_1,byte_2,byte_3,byte_4,byte_5])
 ·repeat (first |exact Below.refl _ _ |refine Below.alloc ?_ (by simp <;> omega) _)
def putV (s:ByteArray) (n k:Int):ByteArray × Int :=
 if k<1∨6<k then(⟨#[]⟩,1) else if n<0∨limI k.toNat<=n then(⟨#[]⟩,6) else(s++beS n.toNat k.toNat,0)
theorem putV_width {s:ByteArray} {n k:Int} (h:k<1∨6<k):putV s n k=(⟨#[]⟩,1):=by simp[putV,h]
theorem putV_range {s:ByteArray} {n k:Int} (h:¬ (k<1∨6<k)) (h':n<0∨limI k.toNat<=n):putV s n k=(⟨#[]⟩,6):=by simp[putV,h,h']
theorem putV_fits {s:ByteArray} {n k:Int} (h:¬ (k<1∨6<k)) (h':¬ (n<0∨limI k.toNat<=n)):putV s n k=(s++beS n.toNat k.toNat,0):=by simp[putV,h,h']
def textV (s t:ByteArray):ByteArray × Int :=
 if 65535<t.size then(⟨#[]⟩,3) else(s++beS t.size 2++t,0)
theorem textV_long {s t:ByteArray} (h:65535<t.size):textV s t=(⟨#[]⟩,3):=by simp[textV,h]
theorem textV_fits {s t:ByteArray} (h:¬ 65535<t.size):textV s t=(s++beS t.size 2++t,0):=by simp[textV,h]
theorem limI_1:limI ((1:Int).toNat)=256:=by decide
theorem limI_2:limI ((2:Int).toNat)=65536:=by decide
theorem limI_3:limI ((3:Int).toNat)=16777216:=by decide
theorem limI_4:limI ((4:Int).toNat)=4294967296:=by decide
theorem limI_5:limI ((5:Int).toNat)=1099511627776:=by decide
theorem limI_6:limI ((6:Int).toNat)=281474976710656:=by decide
theorem numI_1 (n:Int) (w:World) (h0:0<=n) (hn:n<=281474976710656) :
  Calls Tryz.prog 178 #[.int .i64 n,.int .i64 1] w fun e w'=>e=.returned (.string (beS n.toNat 1))/\Below w.heap.size w w':=by
 have h:=num_1 n.toNat w (by omega)
 rw[Int.toNat_of_nonneg h0] at h
 exact h
theorem numI_2 (n:Int) (w:World) (h0:0<=n) (hn:n<=281474976710656) :
  Calls Tryz.prog 178 #[.int .i64 n,.int .i64 2] w fun e w'=>e=.returned (.string (beS n.toNat 2))/\Below w.heap.size w w':=by
 have h:=num_2 n.toNat w (by omega)
 rw[Int.toNat_of_nonneg h0] at h
 exact h
theorem numI_3 (n:Int) (w:World) (h0:0<=n) (hn:n<=281474976710656) :
  Calls Tryz.prog 178 #[.int .i64 n,.int .i64 3] w fun e w'=>e=.returned (.string (beS n.toNat 3))/\Below w.heap.size w w':=by
 have h:=num_3 n.toNat w (by omega)
 rw[Int.toNat_of_nonneg h0] at h
 exact h
theorem numI_4 (n:Int) (w:World) (h0:0<=n) (hn:n<=281474976710656) :
  Calls Tryz.prog 178 #[.int .i64 n,.int .i64 4] w fun e w'=>e=.returned (.string (beS n.toNat 4))/\Below w.heap.size w w':=by
 have h:=num_4 n.toNat w (by omega)
 rw[Int.toNat_of_nonneg h0] at h
 exact h
theorem numI_5 (n:Int) (w:World) (h0:0<=n) (hn:n<=281474976710656) :
  Calls Tryz.prog 178 #[.int .i64 n,.int .i64 5] w fun e w'=>e=.returned (.string (beS n.toNat 5))/\Below w.heap.size w w':=by
 have h:=num_5 n.toNat w (by omega)
 rw[Int.toNat_of_nonneg h0] at h
 exact h
theorem numI_6 (n:Int) (w:World) (h0:0<=n) (hn:n<=281474976710656) :
  Calls Tryz.prog 178 #[.int .i64 n,.int .i64 6] w fun e w'=>e=.returned (.string (beS n.toNat 6))/\Below w.heap.size w w':=by
 have h:=num_6 n.toNat w (by omega)
 rw[Int.toNat_of_nonneg h0] at h
 exact h
set_option maxHeartbeats 2000000 in
theorem Put_any (s:ByteArray) (n k:Int) (w:World) (hs:s.size<=281474976710656) :
  Calls Tryz.prog 116 #[.string s,.int .i64 n,.int .i64 k] w fun e w'=>e=.returned (.tuple #[.string (putV s n k).1,.int .i64 (putV s n k).2])/\Below w.heap.size w w':=by
 by_cases hw:k<1∨6<k
 ·rw[putV_width hw]
  have hd:(decide (1<=k)&&decide (k<=6))=false:=by simp;omega
  go_enter Tryz.func116,Tryz.ntmps116
  go_wp2_with (go_at_call 145;refine(isWidth_any _ _).mono ?_;rintro e w' ⟨rfl,rfl⟩)
  go_ret2
  exact⟨rfl,Below.refl _ _⟩
 ·have hk:k=1∨k=2∨k=3∨k=4∨k=5∨k=6:=by omega
  by_cases hr:n<0∨limI k.toNat<=n
  ·rw[putV_range hw hr]
   clear hw
   rcases hr with hr |hr
   ·rcases hk with rfl |rfl |rfl |rfl |rfl |rfl
    all_goals
     go_enter Tryz.func116,Tryz.ntmps116
     go_wp2_with (go_at_call 145;refine(isWidth_any _ _).mono ?_;rintro e w' ⟨rfl,rfl⟩)
     go_ret2
     exact⟨rfl,Below.refl _ _⟩
   ·rcases hk with rfl |rfl |rfl |rfl |rfl |rfl
    ·rw[limI_1] at hr
     have hn0:0<=n:=by omega
     go_enter Tryz.func116,Tryz.ntmps116
     go_wp2_with (go_at_call 145;refine(isWidth_any _ _).mono ?_;rintro e w' ⟨rfl,rfl⟩)
     go_ret2
     exact⟨rfl,Below.refl _ _⟩
    ·rw[limI_2] at hr
     have hn0:0<=n:=by omega
     go_enter Tryz.func116,Tryz.ntmps116
     go_wp2_with (go_at_call 145;refine(isWidth_any _ _).mono ?_;rintro e w' ⟨rfl,rfl⟩)
     go_ret2
     exact⟨rfl,Below.refl _ _⟩
    ·rw[limI_3] at hr
     have hn0:0<=n:=by omega
     go_enter Tryz.func116,Tryz.ntmps116
     go_wp2_with (go_at_call 145;refine(isWidth_any _ _).mono ?_;rintro e w' ⟨rfl,rfl⟩)
     go_ret2
     exact⟨rfl,Below.refl _ _⟩
    ·rw[limI_4] at hr
     have hn0:0<=n:=by omega
     go_enter Tryz.func116,Tryz.ntmps116
     go_wp2_with (go_at_call 145;refine(isWidth_any _ _).mono ?_;rintro e w' ⟨rfl,rfl⟩)
     go_ret2
     exact⟨rfl,Below.refl _ _⟩
    ·rw[limI_5] at hr
     have hn0:0<=n:=by omega
     go_enter Tryz.func116,Tryz.ntmps116
     go_wp2_with (go_at_call 145;refine(isWidth_any _ _).mono ?_;rintro e w' ⟨rfl,rfl⟩)
     go_ret2
     exact⟨rfl,Below.refl _ _⟩
    ·rw[limI_6] at hr
     have hn0:0<=n:=by omega
     go_enter Tryz.func116,Tryz.ntmps116
     go_wp2_with (go_at_call 145;refine(isWidth_any _ _).mono ?_;rintro e w' ⟨rfl,rfl⟩)
     go_ret2
     exact⟨rfl,Below.refl _ _⟩
  ·rw[putV_fits hw hr]
   clear hw
   have hn0:0<=n:=by omega
   rcases hk with rfl |rfl |rfl |rfl |rfl |rfl
   ·rw[limI_1] at hr
    have hlt:n<256:=by omega
    have hz:(beS n.toNat 1).size<=6:=by rw[beS_size];omega
    clear hr
    go_enter Tryz.func116,Tryz.ntmps116
    go_wp2_with (first |(go_at_call 145;refine(isWidth_any _ _).mono ?_;rintro e w' ⟨rfl,rfl⟩) |(go_at_call 178;refine(numI_1 _ _ (by omega) (by omega)).mono ?_;rintro e w' ⟨rfl,hb⟩))
    go_ret2
    exact⟨rfl,hb⟩
   ·rw[limI_2] at hr
    have hlt:n<65536:=by omega
    have hz:(beS n.toNat 2).size<=6:=by rw[beS_size];omega
    clear hr
    go_enter Tryz.func116,Tryz.ntmps116
    go_wp2_with (first |(go_at_call 145;refine(isWidth_any _ _).mono ?_;rintro e w' ⟨rfl,rfl⟩) |(go_at_call 178;refine(numI_2 _ _ (by omega) (by omega)).mono ?_;rintro e w' ⟨rfl,hb⟩))
    go_ret2
    exact⟨rfl,hb⟩
   ·rw[limI_3] at hr
    have hlt:n<16777216:=by omega
    have hz:(beS n.toNat 3).size<=6:=by rw[beS_size];omega
    clear hr
    go_enter Tryz.func116,Tryz.ntmps116
    go_wp2_with (first |(go_at_call 145;refine(isWidth_any _ _).mono ?_;rintro e w' ⟨rfl,rfl⟩) |(go_at_call 178;refine(numI_3 _ _ (by omega) (by omega)).mono ?_;rintro e w' ⟨rfl,hb⟩))
    go_ret2
    exact⟨rfl,hb⟩
   ·rw[limI_4] at hr
    have hlt:n<4294967296:=by omega
    have hz:(beS n.toNat 4).size<=6:=by rw[beS_size];omega
    clear hr
    go_enter Tryz.func116,Tryz.ntmps116
    go_wp2_with (first |(go_at_call 145;refine(isWidth_any _ _).mono ?_;rintro e w' ⟨rfl,rfl⟩) |(go_at_call 178;refine(numI_4 _ _ (by omega) (by omega)).mono ?_;rintro e w' ⟨rfl,hb⟩))
    go_ret2
    exact⟨rfl,hb⟩
   ·rw[limI_5] at hr
    have hlt:n<1099511627776:=by omega
    have hz:(beS n.toNat 5).size<=6:=by rw[beS_size];omega
    clear hr
    go_enter Tryz.func116,Tryz.ntmps116
    go_wp2_with (first |(go_at_call 145;refine(isWidth_any _ _).mono ?_;rintro e w' ⟨rfl,rfl⟩) |(go_at_call 178;refine(numI_5 _ _ (by omega) (by omega)).mono ?_;rintro e w' ⟨rfl,hb⟩))
    go_ret2
    exact⟨rfl,hb⟩
   ·rw[limI_6] at hr
    have hlt:n<281474976710656:=by omega
    have hz:(beS n.toNat 6).size<=6:=by rw[beS_size];omega
    clear hr
    go_enter Tryz.func116,Tryz.ntmps116
    go_wp2_with (first |(go_at_call 145;refine(isWidth_any _ _).mono ?_;rintro e w' ⟨rfl,rfl⟩) |(go_at_call 178;refine(numI_6 _ _ (by omega) (by omega)).mono ?_;rintro e w' ⟨rfl,hb⟩))
    go_ret2
    exact⟨rfl,hb⟩
set_option maxHeartbeats 1000000 in
theorem Text_any (s t:ByteArray) (w:World) (hs:s.size<=281474976710656) (ht:t.size<=281474976710656) :
  Calls Tryz.prog 248 #[.string s,.string t] w fun e w'=>e=.returned (.tuple #[.string (textV s t).1,.int .i64 (textV s t).2])/\Below w.heap.size w w':=by
 by_cases hl:65535<t.size
 ·rw[textV_long hl]
  go_enter Tryz.func248,Tryz.ntmps248
  go_wp2_with fail
  go_ret2
  exact⟨rfl,Below.refl _ _⟩
 ·rw[textV_fits hl]
  have hz:(beS t.size 2).size<=6:=by rw[beS_size];omega
  have hz2:(s++beS t.size 2).size<=281474976710662:=by rw[ByteArray.size_append];omega
  go_enter Tryz.func248,Tryz.ntmps248
  go_wp2_with (go_at_call 178;refine(num_2 _ _ (by omega)).mono ?_;rintro e w' ⟨rfl,hb⟩)
  go_ret2
  exact⟨rfl,hb⟩
structure Off (b:Nat) (w w':World):Prop where
 os:w'.os=w.os
 tape:w'.tape=w.tape
 output:w'.output=w.output
 size:w.heap.size<=w'.heap.size
 block:∀ k,k<w.heap.size->k≠b->w'.heap[k]?=w.heap[k]?
theorem Off.refl (b:Nat) (w:World):Off b w w:=⟨rfl,rfl,rfl,Nat.le_refl _,fun _ _ _=>rfl⟩
theorem Off.trans {d:Nat} {a b c:World} (h:Off d a b) (k:Off d b c):Off d a c :=
 ⟨k.os.trans h.os,k.tape.trans h.tape,k.output.trans h.output,Nat.le_trans h.size k.size,fun i hi hn=>(k.block i (Nat.lt_of_lt_of_le hi h.size) hn).trans (h.block i hi hn)⟩
theorem Off.of_below {b:Nat} {w w':World} (h:Below w.heap.size w w'):Off b w w':=⟨h.os,h.tape,h.output,h.size,fun k hk _=>h.block k hk⟩
theorem Off.below {b B:Nat} {w w':World} (h:Off b w w') (hb:B<=b) (hB:B<=w.heap.size):Below B w w' :=
 ⟨h.os,h.tape,h.output,h.size,fun k hk=>h.block k (Nat.lt_of_lt_of_le hk hB) (Nat.ne_of_lt (Nat.lt_of_lt_of_le hk hb))⟩
theorem Off.alloc {b:Nat} {a w:World} (h:Off b a w) (o:Obj):Off b a (w.alloc o) :=
 h.trans (Off.of_below ((Below.refl _ _).alloc (Nat.le_refl _) o))
theorem Off.drew {b:Nat} {a w:World} (h:Off b a w):Off b a w.drew:=⟨h.os,h.tape,h.output,h.size,h.block⟩
theorem Off.setCell {b:Nat} {a w:World} (h:Off b a w) (i:Nat) (v:Value):Off b a (w.setCell ⟨b,i,none⟩ v):=by
 refine h.trans ⟨rfl,rfl,rfl,?_,fun k _ hk=>Below.heap_setCell w _ v k hk⟩
 simp[go_sem]
def isRd (w:World) (b:Nat) (s:ByteArray) (e:Int):Prop:=w.heap[b]?=some (.cells #[.string s,.int .i64 e] 210)
theorem isRd.c0 {w:World} {b:Nat} {s:ByteArray} {e:Int} (h:isRd w b s e):w.cell? ⟨b,0,none⟩=some (.string s):=by
 unfold isRd at h;simp[World.cell?,h]
theorem isRd.c1 {w:World} {b:Nat} {s:ByteArray} {e:Int} (h:isRd w b s e):w.cell? ⟨b,1,none⟩=some (.int .i64 e):=by
 unfold isRd at h;simp[World.cell?,h]
theorem isRd.f {w:World} {b:Nat} {s:ByteArray} {e:Int} (h:isRd w b s e) (i:Nat):w.frozen? ⟨b,i,none⟩=false:=by
 unfold isRd at h;simp[World.frozen?,h]
theorem isRd.lt {w:World} {b:Nat} {s:ByteArray} {e:Int} (h:isRd w b s e):b<w.heap.size:=by
 unfold isRd at h
 rcases Nat.lt_or_ge b w.heap.size with h' |h'
 ·exact h'
 ·simp[Array.getElem?_eq_none h'] at h
theorem isRd.below {w w':World} {b:Nat} {s:ByteArray} {e:Int} (h:isRd w b s e) (hb:Below w.heap.size w w'):isRd w' b s e:=(hb.block b h.lt).trans h
theorem isRd.off {w w':World} {b c:Nat} {s:ByteArray} {e:Int} (h:isRd w b s e) (hb:Off c w w') (hn:b≠c):isRd w' b s e:=(hb.block b h.lt hn).trans h
theorem isRd.set0 {w:World} {b:Nat} {s:ByteArray} {e:Int} (h:isRd w b s e) (t:ByteArray):isRd (w.setCell ⟨b,0,none⟩ (.string t)) b t e:=by
 unfold isRd at *
 rw[Joins.block_setCell h];rfl
theorem isRd.set1 {w:World} {b:Nat} {s:ByteArray} {e:Int} (h:isRd w b s e) (x:Int):isRd (w.setCell ⟨b,1,none⟩ (.int .i64 x)) b s x:=by
 unfold isRd at *
 rw[Joins.block_setCell h];rfl
def rdFail (l:ByteArray) (e x:Int):ByteArray × Int:=if e=0 then(⟨#[]⟩,x) else(l,e)
def rdRaw (l:ByteArray) (e n:Int):ByteArray × ByteArray × Int :=
 if e≠0 then(⟨#[]⟩,l,e) else if n<0 then(⟨#[]⟩,⟨#[]⟩,1) else if(l.size:Int)<n then(⟨#[]⟩,⟨#[]⟩,2) else(l.extract 0 n.toNat,l.extract n.toNat l.size,0)
theorem rdRaw_had {l:ByteArray} {e n:Int} (h:e≠0):rdRaw l e n=(⟨#[]⟩,l,e):=by simp[rdRaw,h]
theorem rdRaw_neg {l:ByteArray} {n:Int} (h:n<0):rdRaw l 0 n=(⟨#[]⟩,⟨#[]⟩,1):=by simp[rdRaw,h]
theorem rdRaw_short {l:ByteArray} {n:Int} (h:¬ n<0) (h2:(l.size:Int)<n):rdRaw l 0 n=(⟨#[]⟩,⟨#[]⟩,2):=by simp[rdRaw,h,h2]
theorem rdRaw_fits {l:ByteArray} {n:Int} (h:¬ n<0) (h2:¬ (l.size:Int)<n):rdRaw l 0 n=(l.extract 0 n.toNat,l.extract n.toNat l.size,0):=by simp[rdRaw,h,h2]
def beN (l:List UInt8):Nat:=l.foldl (fun a b=>256*a+b.toNat) 0
def rdNumSt (l:ByteArray) (e k:Int):ByteArray × Int:=if k<1∨6<k then rdFail l e 1 else(l,e)
def rdNum (l:ByteArray) (e k:Int):Nat × ByteArray × Int :=
 (beN (rdRaw (rdNumSt l e k).1 (rdNumSt l e k).2 k).1.data.toList,(rdRaw (rdNumSt l e k).1 (rdNumSt l e k).2 k).2)
def rdTextSt (l:ByteArray) (e m:Int):ByteArray × Int:=if m<(rdNum l e 2).1 then rdFail (rdNum l e 2).2.1 (rdNum l e 2).2.2 3 else(rdNum l e 2).2
def rdText (l:ByteArray) (e m:Int):ByteArray × ByteArray × Int:=rdRaw (rdTextSt l e m).1 (rdTextSt l e m).2 (rdNum l e 2).1
def rdEnd (l:ByteArray) (e:Int):ByteArray × Int:=if 0<l.size then rdFail l e 4 else(l,e)
theorem Left_nil (w:World):Calls Tryz.prog 148 #[.pointer none] w fun e w'=>e=.returned (.int .i64 0)/\w'=w:=by
 go_enter Tryz.func148,Tryz.ntmps148
 go_wp2
 go_ret
 exact⟨rfl,rfl⟩
theorem Err_nil (w:World):Calls Tryz.prog 107 #[.pointer none] w fun e w'=>e=.returned (.int .i64 11)/\w'=w:=by
 go_enter Tryz.func107,Tryz.ntmps107
 go_wp2
 go_ret
 exact⟨rfl,rfl⟩
theorem fail_nil (x:Int) (w:World):Calls Tryz.prog 146 #[.pointer none,.int .i64 x] w fun e w'=>e=.returned (.tuple #[])/\w'=w:=by
 go_enter Tryz.func146,Tryz.ntmps146
 go_wp2_with (go_at_call 107;refine(Err_nil _).mono ?_;rintro e w' ⟨rfl,rfl⟩)
 go_end0
 exact⟨rfl,rfl⟩
theorem Left_any (b:Nat) (s:ByteArray) (e:Int) (w:World) (hs:s.size<=140737488351232) (h:isRd w b s e):Calls Tryz.prog 148 #[.pointer (some ⟨b,0,none⟩)] w fun e w'=>e=.returned (.int .i64 s.size)/\w'=w:=by
 have hc0:=h.c0
 go_enter Tryz.func148,Tryz.ntmps148
 go_wp2
 go_ret
 exact⟨rfl,rfl⟩
theorem Err_any (b:Nat) (s:ByteArray) (e:Int) (w:World) (h:isRd w b s e):Calls Tryz.prog 107 #[.pointer (some ⟨b,0,none⟩)] w fun r w'=>r=.returned (.int .i64 e)/\w'=w:=by
 have hc1:=h.c1
 go_enter Tryz.func107,Tryz.ntmps107
 go_wp2
 go_ret
 exact⟨rfl,rfl⟩
theorem fail_had (b:Nat) (s:ByteArray) (e x:Int) (w:World) (h:isRd w b s e) (he:e≠0):Calls Tryz.prog 146 #[.pointer (some ⟨b,0,none⟩),.int .i64 x] w fun e w'=>e=.returned (.tuple #[])/\w'=w:=by
 have he':(e==0)=false:=by simpa using he
 go_enter Tryz.func146,Tryz.ntmps146
 go_wp2_with (go_at_call 107;refine(Err_any b s e _ h).mono ?_;rintro e w' ⟨rfl,rfl⟩)
 go_end0
 exact⟨rfl,rfl⟩
theorem fail_new (b:Nat) (s:ByteArray) (x:Int) (w:World) (h:isRd w b s 0):Calls Tryz.prog 146 #[.pointer (some ⟨b,0,none⟩),.int .i64 x] w fun e w'=>e=.returned (.tuple #[])/\isRd w' b ⟨#[]⟩ x/\Off b w w':=by
 have hc0:=h.c0
 have hc1:=h.c1
 have hf:=h.f
 go_enter Tryz.func146,Tryz.ntmps146
 go_wp2_with (go_at_call 107;refine(Err_any b s 0 _ h).mono ?_;rintro e w' ⟨rfl,rfl⟩)
 go_end0
 exact⟨rfl,(h.set0 _).set1 _,((Off.refl _ _).setCell _ _).setCell _ _⟩
theorem fail_any (b:Nat) (s:ByteArray) (e x:Int) (w:World) (h:isRd w b s e):Calls Tryz.prog 146 #[.pointer (some ⟨b,0,none⟩),.int .i64 x] w fun r w'=>r=.returned (.tuple #[])/\isRd w' b (rdFail s e x).1 (rdFail s e x).2/\Off b w w':=by
 by_cases he:e=0
 ·subst he
  exact fail_new b s x w h
 ·simp only[rdFail,he,if_false]
  refine(fail_had b s e x w h he).mono ?_
  rintro r w' ⟨rfl,rfl⟩
  exact⟨rfl,h,Off.refl _ _⟩
theorem Raw_nil (n:Int) (w:World):Calls Tryz.prog 97 #[.pointer none,.int .i64 n] w fun e w'=>e=.returned (.string ⟨#[]⟩)/\w'=w:=by
 go_enter Tryz.func97,Tryz.ntmps97
 go_wp2_with (first |(go_at_call 107;refine(Err_nil _).mono ?_;rintro e w' ⟨rfl,rfl⟩) |(go_at_call 148;refine(Left_nil _).mono ?_;rintro e w' ⟨rfl,rfl⟩) |(go_at_call 146;refine(fail_nil _ _).mono ?_;rintro e w' ⟨rfl,rfl⟩))
 all_goals (go_ret;exact⟨rfl,rfl⟩)
set_option maxHeartbeats 1000000 in
theorem Raw_any (b:Nat) (l:ByteArray) (e n:Int) (w:World) (hs:l.size<=140737488351232) (h:isRd w b l e) :
  Calls Tryz.prog 97 #[.pointer (some ⟨b,0,none⟩),.int .i64 n] w fun r w'=>r=.returned (.string (rdRaw l e n).1)/\isRd w' b (rdRaw l e n).2.1 (rdRaw l e n).2.2/\Off b w w':=by
 by_cases he:e=0
 ·subst he
  by_cases hn:n<0
  ·rw[rdRaw_neg hn]
   go_enter Tryz.func97,Tryz.ntmps97
   go_wp2_with (first |(go_at_call 146;refine(fail_new b l _ _ h).mono ?_;rintro e w1 ⟨rfl,h1,o1⟩) |(go_at_call 107;refine(Err_any b _ _ _ h1).mono ?_;rintro e w' ⟨rfl,rfl⟩))
   go_ret
   exact⟨rfl,h1,o1⟩
  ·by_cases hl:(l.size:Int)<n
   ·rw[rdRaw_short hn hl]
    go_enter Tryz.func97,Tryz.ntmps97
    go_wp2_with (first |(go_at_call 148;refine(Left_any b _ _ _ hs h).mono ?_;rintro e w' ⟨rfl,rfl⟩) |(go_at_call 146;refine(fail_new b l _ _ h).mono ?_;rintro e w1 ⟨rfl,h1,o1⟩) |(go_at_call 107;refine(Err_any b _ _ _ h1).mono ?_;rintro e w' ⟨rfl,rfl⟩))
    go_ret
    exact⟨rfl,h1,o1⟩
   ·rw[rdRaw_fits hn hl]
    obtain⟨m,rfl⟩:∃ m:Nat,n=m:=⟨n.toNat,by omega⟩
    have hm:m<=l.size:=by omega
    have hc0:=h.c0
    have hf:=h.f
    rw[Int.toNat_natCast]
    go_enter Tryz.func97,Tryz.ntmps97
    go_wp2_with (first |(go_at_call 148;refine(Left_any b _ _ _ hs h).mono ?_;rintro e w' ⟨rfl,rfl⟩) |(go_at_call 107;refine(Err_any b _ _ _ h).mono ?_;rintro e w' ⟨rfl,rfl⟩))
    go_ret
    exact⟨rfl,h.set0 _,(Off.refl _ _).setCell _ _⟩
 ·rw[rdRaw_had he]
  have he':(e !=0)=true:=by simpa using he
  go_enter Tryz.func97,Tryz.ntmps97
  go_wp2_with (first |(go_at_call 148;refine(Left_any b _ _ _ hs h).mono ?_;rintro e w' ⟨rfl,rfl⟩) |(go_at_call 146;refine(fail_had b l _ _ _ h he).mono ?_;rintro e w1 ⟨rfl,rfl⟩) |(go_at_call 107;refine(Err_any b _ _ _ h).mono ?_;rintro e w' ⟨rfl,rfl⟩))
  all_goals (go_ret;exact⟨rfl,h,Off.refl _ _⟩)
theorem beN_snoc (l:List UInt8) (c:UInt8):beN (l++[c])=256*beN l+c.toNat:=by simp[beN]
theorem beN_lt (l:List UInt8):beN l<256 ^ l.length:=by
 have key:∀ (l:List UInt8) (a n:Nat),a<256 ^ n->l.foldl (fun a b=>256*a+b.toNat) a<256 ^ (n+l.length):=by
  intro l
  induction l with
  | nil=>intro a n h;simpa using h
  | cons c l ih =>
   intro a n h
   have hc:=c.toNat_lt
   have:=ih (256*a+c.toNat) (n+1) (by rw[Nat.pow_succ];omega)
   rw[List.foldl_cons,List.length_cons]
   rw[show n+(l.length+1)=n+1+l.length by omega]
   exact this
 have:=key l 0 0 (by simp)
 simpa[beN] using this
theorem beN_le6 (l:List UInt8) (h:l.length<=6):beN l<281474976710656:=by
 have h1:=beN_lt l
 have h2:256 ^ l.length<=256 ^ 6:=Nat.pow_le_pow_right (by omega) h
 have h3:256 ^ 6=281474976710656:=by decide
 omega
theorem take_snoc (s:ByteArray) (k:Nat) (h:k<s.size):s.data.toList.take (k+1)=s.data.toList.take k++[s[k]]:=by
 rw[List.take_succ_eq_append_getElem (by simpa using h)];rfl
theorem bytesRow_cell (w:World) (s:ByteArray) (c m:Nat) (k:Nat) (h:k<s.size) :
  (w.alloc (.cells (bytesRow s c) 5 (m,m+1))).cell? ⟨w.heap.size,k,none⟩=some (.int .u8 (s[k].toNat:Int)):=by
 rw[World.cell?_alloc_mark]
 have h':k<s.data.size:=h
 simp only[bytesRow]
 rw[Array.getElem?_append_left (by simpa using h')]
 rw[Array.getElem?_map,Array.getElem?_eq_getElem h']
 rfl
theorem or_byte (x:Nat) (c:UInt8) (h:x<281474976710656):bits BinOp.or IntKind.i64 ((x:Int)*256) (wrap64 (c.toNat:Int))=((256*x+c.toNat:Nat):Int):=by
 have hc:=c.toNat_lt
 have e1:wrap64 (c.toNat:Int)=(c.toNat:Int):=by unfold wrap64;omega
 rw[e1]
 show IntKind.i64.wrap ((BitVec.ofInt 64 ((x:Int)*256) |||BitVec.ofInt 64 (c.toNat:Int)).toNat:Int)=_
 have e2:((x:Int)*256)=((256*x:Nat):Int):=by omega
 rw[e2,BitVec.toNat_or,ofInt_u64 (256*x) (by omega),ofInt_u64 c.toNat (by omega),nat_join8 (256*x) c.toNat (by omega) (by omega),IntKind.wrap_i64]
 omega
theorem rdFail_size (l:ByteArray) (e x:Int):(rdFail l e x).1.size<=l.size:=by
 unfold rdFail
 split
 ·exact Nat.zero_le _
 ·exact Nat.le_refl _
theorem rdFail_ne (l:ByteArray) (e x:Int) (hx:x≠0):(rdFail l e x).2≠0:=by
 unfold rdFail
 split
 ·exact hx
 ·assumption
theorem size_nil:(⟨#[]⟩:ByteArray).size=0:=rfl
theorem rdRaw_size (l:ByteArray) (e n:Int):(rdRaw l e n).2.1.size<=l.size:=by
 unfold rdRaw
 repeat' split
 all_goals simp[ByteArray.size_extract,size_nil]
theorem rdRaw_size1 (l:ByteArray) (e n:Int) (k:Nat) (h:n<=k):(rdRaw l e n).1.size<=k:=by
 unfold rdRaw
 repeat' split
 all_goals simp[ByteArray.size_extract,size_nil]
 all_goals omega
theorem rdNumSt_size (l:ByteArray) (e k:Int):(rdNumSt l e k).1.size<=l.size:=by
 unfold rdNumSt
 split
 ·exact rdFail_size _ _ _
 ·exact Nat.le_refl _
theorem rdNumSt_size1 (l:ByteArray) (e k:Int):(rdRaw (rdNumSt l e k).1 (rdNumSt l e k).2 k).1.size<=6:=by
 unfold rdNumSt
 split
 ·rw[rdRaw_had (rdFail_ne _ _ _ (by decide))];exact Nat.zero_le _
 ·exact rdRaw_size1 _ _ _ 6 (by omega)
theorem rdNum_size (l:ByteArray) (e k:Int):(rdNum l e k).2.1.size<=l.size:=Nat.le_trans (rdRaw_size _ _ _) (rdNumSt_size _ _ _)
theorem rdNum_lt (l:ByteArray) (e k:Int):(rdNum l e k).1<281474976710656:=beN_le6 _ (rdNumSt_size1 l e k)
set_option maxHeartbeats 1000000 in
theorem Num_any (b:Nat) (l:ByteArray) (e k:Int) (w:World) (hs:l.size<=140737488351232) (h:isRd w b l e) :
  Calls Tryz.prog 95 #[.pointer (some ⟨b,0,none⟩),.int .i64 k] w fun r w'=>r=.returned (.int .i64 (rdNum l e k).1)/\isRd w' b (rdNum l e k).2.1 (rdNum l e k).2.2/\Off b w w':=by
 have hcv:=fun w s=>run_bytes_of_string (P:=Tryz.prog) w 9 80 5 s Tryz.underlying9 Tryz.underlying80 Tryz.underlying5
 have hl0:=Nat.le_trans (rdNumSt_size l e k) hs
 have hsv:=rdNumSt_size1 l e k
 obtain⟨l0,e0,hst⟩:∃ l0 e0,rdNumSt l e k=(l0,e0):=⟨_,_,rfl⟩
 rw[hst] at hl0 hsv
 dsimp only at hl0 hsv
 obtain⟨sv,st,hp⟩:∃ sv st,rdRaw l0 e0 k=(sv,st):=⟨_,_,rfl⟩
 have c1:=fun w h=>Raw_any b l0 e0 k w hl0 h
 have hr:rdNum l e k=(beN sv.data.toList,st):=by simp only[rdNum,hst,hp]
 rw[hr]
 rw[hp] at c1 hsv
 dsimp only at c1 hsv
 have C1:Hid _:=c1
 clear c1 hp hr hl0
 by_cases hk:k<1∨6<k
 ·have hd:(decide (1<=k)&&decide (k<=6))=false:=by simp;omega
  have c0:=fun w h=>fail_any b l e 1 w h
  rw[rdNumSt,if_pos hk] at hst
  rw[hst] at c0
  have C0:Hid _:=c0
  clear c0 hst hk hs
  go_enter Tryz.func95,Tryz.ntmps95
  go_wp2_with (first |(go_at_call 145;refine(isWidth_any _ _).mono ?_;rintro e w' ⟨rfl,rfl⟩) |(go_at_call 146;refine(C0.out _ h).mono ?_;rintro e w0 ⟨rfl,h0,o0⟩) |(go_at_call 97;refine(C1.out _ h0).mono ?_;rintro e w1 ⟨rfl,h1,o1⟩))
  have hcell:=fun j hj=>bytesRow_cell w1 sv (grownCap w1 sv.size 0 5) (bytesRow sv (grownCap w1 sv.size 0 5)).size j hj
  generalize bytesRow sv (grownCap w1 sv.size 0 5)=R at hcell ⊢
  generalize grownCap w1 sv.size 0 5=gc at hcell ⊢
  go_loop [5,18] (fun n i=>∃ j:Nat,j<=sv.size/\i=.int .i64 j/\n=.int .i64 (beN (sv.data.toList.take j))) (fun _ i=>sv.size-(intOf i).toNat)
  case atStart=>exact⟨0,Nat.zero_le _,rfl,rfl⟩
  case round =>
   obtain⟨j,hj,rfl,rfl⟩:=hrel
   by_cases hlt:j<sv.size
   ·have hc:=hcell j hlt
    have hlt2:=beN_le6 (sv.data.toList.take j) (by have:=List.length_take_le j sv.data.toList;omega)
    go_wp2
    go_round
    case rel=>exact⟨j+1,by omega,by go_num,by rw[or_byte _ _ hlt2,take_snoc _ _ hlt,beN_snoc]⟩
    case measure=>simp[intOf];omega
   ·go_wp2
    go_ret
    rw[List.take_of_length_le (by simp;omega)]
    exact⟨rfl,h1.below (((Below.refl _ _).alloc (Nat.le_refl _) _).drew),((o0.trans o1).alloc _).drew⟩
 ·have hd:(decide (1<=k)&&decide (k<=6))=true:=by simp;omega
  rw[rdNumSt,if_neg hk] at hst
  obtain⟨rfl,rfl⟩:=Prod.mk.inj hst
  clear hst hk hs
  go_enter Tryz.func95,Tryz.ntmps95
  go_wp2_with (first |(go_at_call 145;refine(isWidth_any _ _).mono ?_;rintro e w' ⟨rfl,rfl⟩) |(go_at_call 97;refine(C1.out _ h).mono ?_;rintro e w1 ⟨rfl,h1,o1⟩))
  have hcell:=fun j hj=>bytesRow_cell w1 sv (grownCap w1 sv.size 0 5) (bytesRow sv (grownCap w1 sv.size 0 5)).size j hj
  generalize bytesRow sv (grownCap w1 sv.size 0 5)=R at hcell ⊢
  generalize grownCap w1 sv.size 0 5=gc at hcell ⊢
  go_loop [5,18] (fun n i=>∃ j:Nat,j<=sv.size/\i=.int .i64 j/\n=.int .i64 (beN (sv.data.toList.take j))) (fun _ i=>sv.size-(intOf i).toNat)
  case atStart=>exact⟨0,Nat.zero_le _,rfl,rfl⟩
  case round =>
   obtain⟨j,hj,rfl,rfl⟩:=hrel
   by_cases hlt:j<sv.size
   ·have hc:=hcell j hlt
    have hlt2:=beN_le6 (sv.data.toList.take j) (by have:=List.length_take_le j sv.data.toList;omega)
    go_wp2
    go_round
    case rel=>exact⟨j+1,by omega,by go_num,by rw[or_byte _ _ hlt2,take_snoc _ _ hlt,beN_snoc]⟩
    case measure=>simp[intOf];omega
   ·go_wp2
    go_ret
    rw[List.take_of_length_le (by simp;omega)]
    exact⟨rfl,h1.below (((Below.refl _ _).alloc (Nat.le_refl _) _).drew),(o1.alloc _).drew⟩
set_option maxHeartbeats 1000000 in
theorem RText_any (b:Nat) (l:ByteArray) (e m:Int) (w:World) (hs:l.size<=140737488351232) (h:isRd w b l e) :
  Calls Tryz.prog 202 #[.pointer (some ⟨b,0,none⟩),.int .i64 m] w fun r w'=>r=.returned (.string (rdText l e m).1)/\isRd w' b (rdText l e m).2.1 (rdText l e m).2.2/\Off b w w':=by
 have c0:=fun w h=>Num_any b l e 2 w hs h
 have hn:=rdNum_lt l e 2
 have hz:=Nat.le_trans (rdNum_size l e 2) hs
 unfold rdText rdTextSt
 obtain⟨n,l1,e1,hst⟩:∃ n l1 e1,rdNum l e 2=(n,l1,e1):=⟨_,_,_,rfl⟩
 rw[hst] at c0 hn hz ⊢
 dsimp only at c0 hn hz ⊢
 have C0:Hid _:=c0
 clear c0 hst hs
 by_cases hm:m<n
 ·rw[if_pos hm]
  have hz2:=Nat.le_trans (rdFail_size l1 e1 3) hz
  have c1:=fun w h=>fail_any b l1 e1 3 w h
  obtain⟨l2,e2,hf⟩:∃ l2 e2,rdFail l1 e1 3=(l2,e2):=⟨_,_,rfl⟩
  rw[hf] at c1 hz2 ⊢
  have C1:Hid _:=c1
  dsimp only at hz2 ⊢
  have C2:Hid _:=fun w h=>Raw_any b l2 e2 n w hz2 h
  clear c1 hf
  go_enter Tryz.func202,Tryz.ntmps202
  go_wp2_with (first |(go_at_call 95;refine(C0.out _ h).mono ?_;rintro e w1 ⟨rfl,h1,o1⟩) |(go_at_call 146;refine(C1.out _ h1).mono ?_;rintro e w2 ⟨rfl,h2,o2⟩) |(go_at_call 97;refine(C2.out _ h2).mono ?_;rintro e w3 ⟨rfl,h3,o3⟩))
  go_ret
  exact⟨rfl,h3,(o1.trans o2).trans o3⟩
 ·rw[if_neg hm]
  have C2:Hid _:=fun w h=>Raw_any b l1 e1 n w hz h
  go_enter Tryz.func202,Tryz.ntmps202
  go_wp2_with (first |(go_at_call 95;refine(C0.out _ h).mono ?_;rintro e w1 ⟨rfl,h1,o1⟩) |(go_at_call 97;refine(C2.out _ h1).mono ?_;rintro e w3 ⟨rfl,h3,o3⟩))
  go_ret
  exact⟨rfl,h3,o1.trans o3⟩
theorem End_any (b:Nat) (l:ByteArray) (e:Int) (w:World) (hs:l.size<=140737488351232) (h:isRd w b l e) :
  Calls Tryz.prog 162 #[.pointer (some ⟨b,0,none⟩)] w fun r w'=>r=.returned (.int .i64 (rdEnd l e).2)/\isRd w' b (rdEnd l e).1 (rdEnd l e).2/\Off b w w':=by
 unfold rdEnd
 by_cases hl:0<l.size
 ·rw[if_pos hl]
  have c1:=fun w h=>fail_any b l e 4 w h
  obtain⟨l2,e2,hf⟩:∃ l2 e2,rdFail l e 4=(l2,e2):=⟨_,_,rfl⟩
  rw[hf] at c1 ⊢
  dsimp only at c1 ⊢
  have C1:Hid _:=c1
  clear c1 hf
  have hl':(0:Int)<(l.size:Int):=by omega
  go_enter Tryz.func162,Tryz.ntmps162
  go_wp2_with (first |(go_at_call 148;refine(Left_any b _ _ _ hs h).mono ?_;rintro e w' ⟨rfl,rfl⟩) |(go_at_call 146;refine(C1.out _ h).mono ?_;rintro e w2 ⟨rfl,h2,o2⟩) |(go_at_call 107;refine(Err_any b _ _ _ h2).mono ?_;rintro e w3 ⟨rfl,rfl⟩))
  go_ret
  exact⟨rfl,h2,o2⟩
 ·rw[if_neg hl]
  have hl':¬ (0:Int)<(l.size:Int):=by omega
  go_enter Tryz.func162,Tryz.ntmps162
  go_wp2_with (first |(go_at_call 148;refine(Left_any b _ _ _ hs h).mono ?_;rintro e w' ⟨rfl,rfl⟩) |(go_at_call 107;refine(Err_any b _ _ _ h).mono ?_;rintro e w3 ⟨rfl,rfl⟩))
  go_ret
  exact⟨rfl,h,Off.refl _ _⟩
def isWr (w:World) (b:Nat) (p:Option Addr) (n e:Int):Prop:=w.heap[b]?=some (.cells #[.pointer p,.int .i64 n,.int .i64 e] 257)
theorem isWr.c0 {w:World} {b:Nat} {p:Option Addr} {n e:Int} (h:isWr w b p n e):w.cell? ⟨b,0,none⟩=some (.pointer p):=by
 unfold isWr at h;simp[World.cell?,h]
theorem isWr.c1 {w:World} {b:Nat} {p:Option Addr} {n e:Int} (h:isWr w b p n e):w.cell? ⟨b,1,none⟩=some (.int .i64 n):=by
 unfold isWr at h;simp[World.cell?,h]
theorem isWr.c2 {w:World} {b:Nat} {p:Option Addr} {n e:Int} (h:isWr w b p n e):w.cell? ⟨b,2,none⟩=some (.int .i64 e):=by
 unfold isWr at h;simp[World.cell?,h]
theorem isWr.f {w:World} {b:Nat} {p:Option Addr} {n e:Int} (h:isWr w b p n e) (i:Nat):w.frozen? ⟨b,i,none⟩=false:=by
 unfold isWr at h;simp[World.frozen?,h]
theorem isWr.lt {w:World} {b:Nat} {p:Option Addr} {n e:Int} (h:isWr w b p n e):b<w.heap.size:=by
 unfold isWr at h
 rcases Nat.lt_or_ge b w.heap.size with h' |h'
 ·exact h'
 ·simp[Array.getElem?_eq_none h'] at h
theorem isWr.below {w w':World} {b:Nat} {p:Option Addr} {n e:Int} (h:isWr w b p n e) (hb:Below w.heap.size w w'):isWr w' b p n e:=(hb.block b h.lt).trans h
theorem isWr.set0 {w:World} {b:Nat} {p:Option Addr} {n e:Int} (h:isWr w b p n e) (x:Option Addr):isWr (w.setCell ⟨b,0,none⟩ (.pointer x)) b x n e:=by
 unfold isWr at *
 rw[Joins.block_setCell h];rfl
theorem isWr.set1 {w:World} {b:Nat} {p:Option Addr} {n e:Int} (h:isWr w b p n e) (x:Int):isWr (w.setCell ⟨b,1,none⟩ (.int .i64 x)) b p x e:=by
 unfold isWr at *
 rw[Joins.block_setCell h];rfl
theorem isWr.set2 {w:World} {b:Nat} {p:Option Addr} {n e:Int} (h:isWr w b p n e) (x:Int):isWr (w.setCell ⟨b,2,none⟩ (.int .i64 x)) b p n x:=by
 unfold isWr at *
 rw[Joins.block_setCell h];rfl
def Chain (b:Nat) (w:World):Option Addr->List ByteArray->Prop
 | p,[]=>p=none
 | p,t :: r=>∃ c p',p=some ⟨c,0,none⟩/\c≠b/\c<w.heap.size/\w.heap[c]?=some (.cells #[.pointer p',.string t] 291)/\1<=t.size/\Chain b w p' r
theorem Chain.off {b:Nat} {w w':World} (o:Off b w w'):∀ {l:List ByteArray} {p:Option Addr},Chain b w p l->Chain b w' p l
 | [],_,h=>h
 | t :: r,_,⟨c,p',hp,hc,hl,hh,ht,hr⟩=>⟨c,p',hp,hc,Nat.lt_of_lt_of_le hl o.size,(o.block c hl hc).trans hh,ht,Chain.off o hr⟩
def joinR:List ByteArray->ByteArray
 | []=>⟨#[]⟩
 | t :: r=>joinR r++t
def WrIs (w:World) (b:Nat) (all:ByteArray) (e:Int):Prop:=∃ p l,isWr w b p all.size e/\Chain b w p l/\joinR l=all
theorem WrIs.below {w w':World} {b:Nat} {all:ByteArray} {e:Int} (h:WrIs w b all e) (hb:Below w.heap.size w w'):WrIs w' b all e:=by
 obtain⟨p,l,h1,h2,h3⟩:=h
 exact⟨p,l,h1.below hb,h2.off (Off.of_below hb),h3⟩
theorem WrIs.lt {w:World} {b:Nat} {all:ByteArray} {e:Int} (h:WrIs w b all e):b<w.heap.size:=by
 obtain⟨p,l,h1,h2,h3⟩:=h
 exact h1.lt
def wrLay (all:ByteArray) (e:Int) (s:ByteArray) (x:Int):ByteArray × Int :=
 if e≠0 then(all,e) else if x≠0 then(⟨#[]⟩,x) else(all++s,0)
set_option maxHeartbeats 1000000 in
theorem lay_any (b:Nat) (all s:ByteArray) (e x:Int) (w:World) (h:WrIs w b all e) (hsz:all.size+s.size<=140737488351232) (hs:x=0->1<=s.size) :
  Calls Tryz.prog 236 #[.pointer (some ⟨b,0,none⟩),.string s,.int .i64 x] w fun r w'=>r=.returned (.tuple #[])/\WrIs w' b (wrLay all e s x).1 (wrLay all e s x).2/\Off b w w':=by
 obtain⟨p,l,h1,h2,h3⟩:=h
 have H3:Hid _:=h3
 clear h3
 have hc0:=h1.c0
 have hc1:=h1.c1
 have hc2:=h1.c2
 have hf:=h1.f
 have hlt:=h1.lt
 unfold wrLay
 by_cases he:e=0
 ·subst he
  rw[if_neg (fun h=>h rfl)]
  by_cases hx:x=0
  ·subst hx
   rw[if_neg (fun h=>h rfl)]
   replace hs:=hs rfl
   go_enter Tryz.func236,Tryz.ntmps236
   go_wp2
   go_end0
   have o1:Off b w ((w.setCell ⟨b,0,none⟩ (.pointer (some ⟨w.heap.size,0,none⟩))).setCell ⟨b,1,none⟩ (.int .i64 ((all.size:Int)+(s.size:Int)))):=((Off.refl _ _).setCell _ _).setCell _ _
   have i1:=(h1.set0 (some ⟨w.heap.size,0,none⟩)).set1 ((all.size:Int)+(s.size:Int))
   have z1:((w.setCell ⟨b,0,none⟩ (.pointer (some ⟨w.heap.size,0,none⟩))).setCell ⟨b,1,none⟩ (.int .i64 ((all.size:Int)+(s.size:Int)))).heap.size=w.heap.size:=by simp[go_sem]
   refine⟨rfl,⟨some ⟨w.heap.size,0,none⟩,s ::l,?_,⟨w.heap.size,p,rfl,by omega,?_,?_,hs,h2.off (o1.alloc _)⟩,?_⟩,o1.alloc _⟩
   ·rw[ByteArray.size_append,Int.natCast_add]
    exact i1.below ((Below.refl _ _).alloc (Nat.le_refl _) _)
   ·simp[go_sem]
   ·have:=(MapKept.heap_alloc ((w.setCell ⟨b,0,none⟩ (.pointer (some ⟨w.heap.size,0,none⟩))).setCell ⟨b,1,none⟩ (.int .i64 ((all.size:Int)+(s.size:Int)))) (.cells #[.pointer p,.string s] 291)).1
    rw[z1] at this
    exact this
   ·rw[joinR,H3.out]
  ·rw[if_pos hx]
   have hx':(x !=0)=true:=by simpa using hx
   go_enter Tryz.func236,Tryz.ntmps236
   go_wp2
   go_end0
   refine⟨rfl,⟨none,[],((h1.set0 _).set1 _).set2 _,rfl,rfl⟩,(((Off.refl _ _).setCell _ _).setCell _ _).setCell _ _⟩
 ·rw[if_pos he]
  have he':(e !=0)=true:=by simpa using he
  go_enter Tryz.func236,Tryz.ntmps236
  go_wp2
  go_end0
  exact⟨rfl,⟨p,l,h1,h2,H3.out⟩,Off.refl _ _⟩
theorem putV_size (n k:Int):(putV ⟨#[]⟩ n k).1.size<=6/\((putV ⟨#[]⟩ n k).2=0->1<=(putV ⟨#[]⟩ n k).1.size):=by
 by_cases hw:k<1∨6<k
 ·rw[putV_width hw]
  exact⟨Nat.zero_le _,fun h=>absurd h (by dsimp only;decide)⟩
 ·by_cases hr:n<0∨limI k.toNat<=n
  ·rw[putV_range hw hr]
   exact⟨Nat.zero_le _,fun h=>absurd h (by dsimp only;decide)⟩
  ·rw[putV_fits hw hr]
   dsimp only
   rw[ByteArray.size_append,beS_size,size_nil]
   exact⟨by omega,fun _=>by omega⟩
theorem textV_size (t:ByteArray):(textV ⟨#[]⟩ t).1.size<=65537/\((textV ⟨#[]⟩ t).2=0->1<=(textV ⟨#[]⟩ t).1.size):=by
 by_cases hl:65535<t.size
 ·rw[textV_long hl]
  exact⟨Nat.zero_le _,fun h=>absurd h (by dsimp only;decide)⟩
 ·rw[textV_fits hl]
  dsimp only
  rw[ByteArray.size_append,ByteArray.size_append,beS_size,size_nil]
  exact⟨by omega,fun _=>by omega⟩
theorem WNum_any (b:Nat) (all:ByteArray) (e n k:Int) (w:World) (h:WrIs w b all e) (hsz:all.size<=100000000000000) :
  Calls Tryz.prog 206 #[.pointer (some ⟨b,0,none⟩),.int .i64 n,.int .i64 k] w fun r w'=>r=.returned (.tuple #[])/\WrIs w' b (wrLay all e (putV ⟨#[]⟩ n k).1 (putV ⟨#[]⟩ n k).2).1 (wrLay all e (putV ⟨#[]⟩ n k).1 (putV ⟨#[]⟩ n k).2).2/\Off b w w':=by
 have hz:=putV_size n k
 have c1:=fun w=>Put_any ⟨#[]⟩ n k w (by decide)
 obtain⟨sv,ev,hp⟩:∃ sv ev,putV ⟨#[]⟩ n k=(sv,ev):=⟨_,_,rfl⟩
 rw[hp] at c1 hz ⊢
 dsimp only at c1 hz ⊢
 have C1:Hid _:=c1
 have C2:Hid _:=fun w h=>lay_any b all sv e ev w h (by omega) hz.2
 clear c1 hp hz
 go_enter Tryz.func206,Tryz.ntmps206
 go_wp2_with (first |(go_at_call 116;refine(C1.out _).mono ?_;rintro e w1 ⟨rfl,hb1⟩) |(go_at_call 236;refine(C2.out _ (h.below hb1)).mono ?_;rintro e w2 ⟨rfl,h2,o2⟩))
 go_end0
 exact⟨rfl,h2,(Off.of_below hb1).trans o2⟩
theorem WText_any (b:Nat) (all:ByteArray) (e:Int) (t:ByteArray) (w:World) (h:WrIs w b all e) (hsz:all.size<=100000000000000) (ht:t.size<=140737488351232) :
  Calls Tryz.prog 237 #[.pointer (some ⟨b,0,none⟩),.string t] w fun r w'=>r=.returned (.tuple #[])/\WrIs w' b (wrLay all e (textV ⟨#[]⟩ t).1 (textV ⟨#[]⟩ t).2).1 (wrLay all e (textV ⟨#[]⟩ t).1 (textV ⟨#[]⟩ t).2).2/\Off b w w':=by
 have hz:=textV_size t
 have c1:=fun w=>Text_any ⟨#[]⟩ t w (by decide) (by omega)
 obtain⟨sv,ev,hp⟩:∃ sv ev,textV ⟨#[]⟩ t=(sv,ev):=⟨_,_,rfl⟩
 rw[hp] at c1 hz ⊢
 dsimp only at c1 hz ⊢
 have C1:Hid _:=c1
 have C2:Hid _:=fun w h=>lay_any b all sv e ev w h (by omega) hz.2
 clear c1 hp hz
 go_enter Tryz.func237,Tryz.ntmps237
 go_wp2_with (first |(go_at_call 248;refine(C1.out _).mono ?_;rintro e w1 ⟨rfl,hb1⟩) |(go_at_call 236;refine(C2.out _ (h.below hb1)).mono ?_;rintro e w2 ⟨rfl,h2,o2⟩))
 go_end0
 exact⟨rfl,h2,(Off.of_below hb1).trans o2⟩
end Go.Proofs.YtpcnjncgilmehabGreat.Pk
