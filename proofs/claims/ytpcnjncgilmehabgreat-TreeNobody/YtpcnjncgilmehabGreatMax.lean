import Derived.Test.YtpcnjncgilmehabGreatMaw
import Derived.Test.YtpcnjncgilmehabGreatMav
import Derived.Deep.RegionHeld3
import Derived.Test.YtpcnjncgilmehabGreatMac
import Derived.Laws.AppendOwn
import Derived.Laws.Append
import Derived.Deep.WholeRow
import Derived.Laws.ResultCell
set_option linter.unusedVariables false
set_option linter.unusedSimpArgs false
set_option maxRecDepth 100000
namespace Go.Proofs.YtpcnjncgilmehabGreat.Pg
open Go.RowKit
theorem results_tmp4 {fn:Func} {t u v x:Tmp} (h:fn.results=#[.tmp t,.tmp u,.tmp v,.tmp x]) (tmps:Array Value) (P:Program) (w:World) :
  (results fn tmps).run P w=.ok (.tuple #[tmps.getD t undef,tmps.getD u undef,tmps.getD v undef,tmps.getD x undef]) w:=by
 simp[results,h]
theorem there_pg {w:World} {b:Nat} {s t:List UInt8} (h:Sh w b s) (ht:t.length=224):w.there b 0 (pgL t).toArray.size:=by
 rw[List.size_toArray,pgL_length,ht];exact h.there
theorem zeroA:Tryz.zeroCells158=pgA zs:=by
 have:=zero63
 simp only[pgV,Value.agg.injEq] at this
 exact this
theorem there_new (w:World) {t:List UInt8} (ht:t.length=224):(w.alloc (.cells Tryz.zeroCells158 158)).there w.heap.size 0 (pgL t).length:=by
 have:=there_pg (t:=t) (Sh.new w zs_length) ht
 rw[← zeroA,List.size_toArray] at this
 exact this
theorem there_kept {w w':World} {t:List UInt8} (h:Below (w.alloc (.cells Tryz.zeroCells158 158)).drew.heap.size (w.alloc (.cells Tryz.zeroCells158 158)).drew w') (ht:t.length=224):w'.there w.heap.size 0 (pgL t).length:=by
 have hs:Sh w' w.heap.size zs:=by
  have hn:=Sh.new w zs_length
  rw[← zeroA] at hn
  exact hn.drew.below h
 have:=there_pg (t:=t) hs ht
 rw[List.size_toArray] at this
 exact this
theorem new_o1 {w w':World} {t:List UInt8} (h:Below w.drew.heap.size w.drew w') (ht:t.length=224):New w ((w'.alloc (.cells Tryz.zeroCells158 158)).setCells w'.heap.size 0 (pgL t)) w'.heap.size t:=by
 have hn:=Sh.new w' zs_length
 rw[← zeroA] at hn
 have hb:Below w.heap.size w w':=thn (Go.below_drewN (Below.refl _ _) 1) h
 rw[setCells_pg t hn ht]
 exact⟨hn.setRow ht,below_setRow (thnA hb _) hb.size _,hb.size⟩
theorem new_o2 {w w':World} {t:List UInt8} (h:Below (w.alloc (.cells Tryz.zeroCells158 158)).drew.heap.size (w.alloc (.cells Tryz.zeroCells158 158)).drew w') (ht:t.length=224):New w (w'.setCells w.heap.size 0 (pgL t)) w.heap.size t:=by
 have hn:=Sh.new w zs_length
 rw[← zeroA] at hn
 have hs:=hn.drew.below h
 have hb:Below w.heap.size w w':=thn (Go.below_drewN (thnA (Below.refl _ _) _) 1) h
 rw[setCells_pg t hs ht]
 exact⟨hs.setRow ht,below_setRow hb (Nat.le_refl _) _,Nat.le_refl _⟩
set_option maxHeartbeats 2000000 in
theorem Halves_ok (w:World) (p:ByteArray) (h:Turns (bts p)) (hn:2<=cnt (bts p)) (n:Nat) (hH:IsH (cells (bts p)) n):Calls Tryz.prog 112 #[.string p] w fun e w'=>e=.returned (.tuple #[.string (tx (packS (g (bts p) 0) (g (bts p) 1) ((cells (bts p)).take n))),.string (tx (packS (g (bts p) 0) (g (bts p) 1) ((cells (bts p)).drop n))),.string (key (bts p) n),.int .i64 0])/\Below w.heap.size w w':=by
 have hTl:(bts p).length=224:=h.right.head.len
 have hcl:=cells_length (bts p)
 have hnl:=hH.lt
 have hn1:=hH.one
 have hmax:=h.right.head.slotlt
 have CR:Hid (∀ w,Calls Tryz.prog 120 #[.string p] w fun e w'=>e=.returned (.tuple #[pgV (bts p),.int .i64 0])/\Below w.heap.size w w'):=fun w=>rft_ok w p h
 have C1:Hid (∀ w b,Sh w b (bts p)->Calls Tryz.prog 129 #[.pointer (some ⟨b,0,none⟩)] w fun e w'=>e=.returned (.int .i64 (cnt (bts p)))/\w'=w):=fun w b h=>count_any w h
 have CK:Hid (∀ w b,Sh w b (bts p)->Calls Tryz.prog 165 #[.pointer (some ⟨b,0,none⟩)] w fun e w'=>e=.returned (.int .i64 (g (bts p) 0))/\w'=w):=fun w b h=>kind_any w h
 have CV:Hid (∀ w b,Sh w b (bts p)->Calls Tryz.prog 170 #[.pointer (some ⟨b,0,none⟩)] w fun e w'=>e=.returned (.int .i64 (g (bts p) 1))/\w'=w):=fun w b h=>level_any w h
 have CC:Hid (∀ w b,Sh w b (bts p)->Calls Tryz.prog 167 #[.pointer (some ⟨b,0,none⟩)] w fun e w'=>∃ a,e=.returned (.slice (some ⟨a,0,none⟩) (cnt (bts p)) (cnt (bts p)))/\Sl w' (some ⟨a,0,none⟩) (cnt (bts p)) (cells (bts p))/\Below w.heap.size w w'):=fun w b hS=>by
  refine(cells_any w hS h.right).mono ?_
  rintro e w' ⟨a,rfl,hc,hb⟩
  exact⟨a,rfl,⟨hc,by omega,fun e=>(by cases e),Or.inr ⟨a,0,rfl⟩⟩,hb⟩
 have CH:Hid (∀ w a cap,Sl w a cap (cells (bts p))->Calls Tryz.prog 168 #[.slice a (cnt (bts p)) cap] w fun e w'=>e=.returned (.int .i64 (n:Int))/\Below w.heap.size w w'):=fun w a cap hs=>by
  have:=halfOf_any w hs h.right.small (by omega) n hH
  rw[hcl] at this;exact this
 have hpk:=h.right.canPack
 have hL1:=(packed_all _ (hpk.take n)).right.head.len
 have hL2:=(packed_all _ (hpk.drop n)).right.head.len
 have lt1:((cells (bts p)).take n).length=n:=by rw[List.length_take];omega
 have lt2:((cells (bts p)).drop n).length=cnt (bts p)-n:=by rw[List.length_drop,hcl]
 have CP1:Hid (∀ w a cap,Cs w a ((cells (bts p)).take n)->Calls Tryz.prog 169 #[.int .i64 (g (bts p) 0:Int),.int .i64 (g (bts p) 1:Int),.slice a n cap] w fun e w'=>e=.returned (pgV (packS (g (bts p) 0) (g (bts p) 1) ((cells (bts p)).take n)))/\Below w.heap.size w w'):=fun w a cap hc=>by
  have:=packed_any w _ _ cap hc (hpk.take n)
  rw[lt1] at this;exact this
 have CP2:Hid (∀ w a cap,Cs w a ((cells (bts p)).drop n)->Calls Tryz.prog 169 #[.int .i64 (g (bts p) 0:Int),.int .i64 (g (bts p) 1:Int),.slice a (cnt (bts p)-n) cap] w fun e w'=>e=.returned (pgV (packS (g (bts p) 0) (g (bts p) 1) ((cells (bts p)).drop n)))/\Below w.heap.size w w'):=fun w a cap hc=>by
  have:=packed_any w _ _ cap hc (hpk.drop n)
  rw[lt2] at this;exact this
 have hkey:Hid (((cells (bts p))[n]'hnl).k=key (bts p) n):=(by rw[cells_get'];rfl:((cells (bts p))[n]'hnl).k=key (bts p) n)
 have CX:Hid (∀ w b s',Sh w b s'->Calls Tryz.prog 119 #[.pointer (some ⟨b,0,none⟩)] w fun e w'=>e=.returned (.string (tx s'))/\w'=w):=fun w b s' h=>text_any w h
 have hnI:¬ (cnt (bts p):Int)<2:=by omega
 have hnn:n<cnt (bts p):=by omega
 have TO:Hid (∀ w a cap,Sl w a cap (cells (bts p))->(∀ W,(Instr.slice 56 (.slice a (cnt (bts p)) cap) none (some (.int .i64 (n:Int))) none).run Tryz.prog W=.ok (.slice a n cap) W)/\Sl w a cap ((cells (bts p)).take n)):=(fun w a cap hs=>by
  have:=hs.to n (by omega)
  rw[hcl] at this;exact this:∀ w a cap,Sl w a cap (cells (bts p))->(∀ W,(Instr.slice 56 (.slice a (cnt (bts p)) cap) none (some (.int .i64 (n:Int))) none).run Tryz.prog W=.ok (.slice a n cap) W)/\Sl w a cap ((cells (bts p)).take n))
 have FR:Hid (∀ w a cap,Sl w a cap (cells (bts p))->∃ a',(∀ W,(Instr.slice 56 (.slice a (cnt (bts p)) cap) (some (.int .i64 (n:Int))) none none).run Tryz.prog W=.ok (.slice a' (cnt (bts p)-n) (cap-n)) W)/\Sl w a' (cap-n) ((cells (bts p)).drop n)):=(fun w a cap hs=>by
  have:=hs.from n (n:Int) rfl (by omega)
  rw[hcl] at this;exact this:∀ w a cap,Sl w a cap (cells (bts p))->∃ a',(∀ W,(Instr.slice 56 (.slice a (cnt (bts p)) cap) (some (.int .i64 (n:Int))) none none).run Tryz.prog W=.ok (.slice a' (cnt (bts p)-n) (cap-n)) W)/\Sl w a' (cap-n) ((cells (bts p)).drop n))
 clear h hpk lt1 lt2 hH
 generalize packS (g (bts p) 0) (g (bts p) 1) ((cells (bts p)).take n)=PA at *
 generalize packS (g (bts p) 0) (g (bts p) 1) ((cells (bts p)).drop n)=PB at *
 generalize key (bts p) n=ky at *
 generalize bts p=T at *
 generalize g T 0=k0 at *
 generalize g T 1=l0 at *
 go_enter Tryz.func112,Tryz.ntmps112
 go_wp2_with (first |(go_at_call 120;refine(CR.out _).mono ?_;rintro e w2 ⟨rfl,hb2⟩) |(refine wpList_new_sh _ rfl rfl ?_;intro w3 b3 N3) |(refine wpList_put_sh _ rfl _ _ rfl rfl (t:=T) rfl N3.sh hTl ?_;intro w4 P4) |(go_at_call 129;refine(C1.out _ _ P4.sh).mono ?_;rintro e w5 ⟨rfl,rfl⟩) |(go_at_call 167;refine(CC.out _ _ P4.sh).mono ?_;rintro e w6 ⟨a6,rfl,hL6,hb6⟩) |(go_at_call 168;refine(CH.out _ _ _ hL6).mono ?_;rintro e w7 ⟨rfl,hb7⟩))
 have hS7:Sh w7 b3 T:=(P4.sh.below hb6).below hb7
 have hL7:=hL6.below hb7
 obtain⟨s1,t1⟩:=TO.out _ _ _ hL7
 obtain⟨a8,s2,t2⟩:=FR.out _ _ _ hL7
 have T1:Hid _:=t1
 have T2:Hid _:=t2
 clear t1 t2
 have hone:=pgL_one PA
 have hinf:(Tryz.prog.info? 158).map (·.size)=some (pgL PA).toArray.size:=info_pg hL1
 have hone2:=pgL_one PB
 have hinf2:(Tryz.prog.info? 158).map (·.size)=some (pgL PB).toArray.size:=info_pg hL2
 have Z7:Below w7.heap.size w7 w7.drew:=Go.below_drewN (Below.refl _ _) 1
 go_region_held3 (fun _=>True) (trivial) (first |(go_at_call 165;refine(CK.out _ _ ?_).mono ?_;(first |exact hS7.drew |exact hS7.drew.alloc _);rintro e w' ⟨rfl,rfl⟩) |(go_at_call 170;refine(CV.out _ _ ?_).mono ?_;(first |exact hS7.drew |exact hS7.drew.alloc _);rintro e w' ⟨rfl,rfl⟩) |(go_at_call 169;refine(CP1.out _ _ _ ?_).mono ?_;(first |exact T1.out.cs.below Z7 |exact T1.out.cs.below (thnA Z7 _));rintro e w9 ⟨rfl,hb9⟩;first |(have hth:=there_kept hb9 hL1) |(have hth:=there_new w9 hL1)))
 all_goals
  first
  | (have NA:=new_o2 hb9 hL1;generalize World.setCells _ _ 0 (pgL PA)=w12 at NA ⊢;generalize w7.heap.size=b12 at NA ⊢)
  | (have NA:=new_o1 hb9 hL1;generalize World.setCells _ _ 0 (pgL PA)=w12 at NA ⊢;generalize w9.heap.size=b12 at NA ⊢)
  clear hb9 hth
  have hS12:Sh w12 b3 T:=hS7.below NA.below
  have hL12:=hL7.below NA.below
  have hT2:=T2.out.below NA.below
  have Z12:Below w12.heap.size w12 w12.drew:=Go.below_drewN (Below.refl _ _) 1
  go_wp2
  go_region_held3 (fun _=>True) (trivial) (first |(go_at_call 165;refine(CK.out _ _ ?_).mono ?_;(first |exact hS12.drew |exact hS12.drew.alloc _);rintro e w' ⟨rfl,rfl⟩) |(go_at_call 170;refine(CV.out _ _ ?_).mono ?_;(first |exact hS12.drew |exact hS12.drew.alloc _);rintro e w' ⟨rfl,rfl⟩) |(go_at_call 169;refine(CP2.out _ _ _ ?_).mono ?_;(first |exact hT2.cs.below Z12 |exact hT2.cs.below (thnA Z12 _));rintro e w13 ⟨rfl,hb13⟩;first |(have hth:=there_kept hb13 hL2) |(have hth:=there_new w13 hL2)))
  all_goals
   first
   | (have NB:=new_o2 hb13 hL2;generalize World.setCells _ _ 0 (pgL PB)=w14 at NB ⊢;generalize w12.heap.size=b14 at NB ⊢)
   | (have NB:=new_o1 hb13 hL2;generalize World.setCells _ _ 0 (pgL PB)=w14 at NB ⊢;generalize w13.heap.size=b14 at NB ⊢)
   clear hb13 hth
   have hA14:Sh w14 b12 PA:=NA.sh.below NB.below
   have hB14:=NB.sh
   have hL14:=hL12.below NB.below
   obtain⟨bb,off,hba,hbl,q0,q1⟩:=hL14.cs.at_ n hnl
   cases hba
   rw[hkey.out,Nat.zero_add] at q0
   go_wp2
   go_quiet (first |(go_at_call 119;refine Calls.quiet_of_same (CX.out _ _ _ (hA14.drewN _))) |(go_at_call 119;refine Calls.quiet_of_same (CX.out _ _ _ (hB14.drewN _))))
   go_wp2
   refine bodyPost_ret (results_tmp4 rfl _ _ _) rfl ?_
   exact⟨rfl,Go.below_drewN (thn (thn (thn (thn (opened hb2 N3 P4) hb6) hb7) NA.below) NB.below) _⟩
end Go.Proofs.YtpcnjncgilmehabGreat.Pg
namespace Go.Proofs.YtpcnjncgilmehabGreat.Tr
open Go.RowKit
abbrev Cl:=Pg.Cl
abbrev eb:ByteArray:=⟨#[]⟩
def uses (us:List UInt8) (id:Nat):Bool:=(Pg.g us (id / 8)).testBit (id % 8)
def use (us:List UInt8) (id:Nat):List UInt8:=us.set (id / 8) (UInt8.ofNat (Pg.g us (id / 8) |||2 ^ (id % 8)))
theorem g_set (us:List UInt8) (i j:Nat) (x:UInt8) (hi:i<us.length):Pg.g (us.set i x) j=if i=j then x.toNat else Pg.g us j:=by
 unfold Pg.g
 rw[List.getElem?_set]
 split
 ·rename_i h;subst h;simp[hi]
 ·rfl
theorem use_length (us:List UInt8) (id:Nat):(use us id).length=us.length:=by simp[use]
theorem pow_lt8 {i:Nat} (h:i<8):2 ^ i<256:=by
 have:i=0∨i=1∨i=2∨i=3∨i=4∨i=5∨i=6∨i=7:=by omega
 rcases this with rfl |rfl |rfl |rfl |rfl |rfl |rfl |rfl <;> decide
theorem toNat_of (n:Nat) (h:n<256):(UInt8.ofNat n).toNat=n:=by
 rw[UInt8.toNat_ofNat'];omega
theorem uses_use (us:List UInt8) (id j:Nat) (h:id / 8<us.length):uses (use us id) j=(decide (id=j)||uses us j):=by
 have hb:=Pg.g_lt us (id / 8)
 have h8:id % 8<8:=Nat.mod_lt _ (by omega)
 have hz:Pg.g us (id / 8) |||2 ^ (id % 8)<256:=Nat.or_lt_two_pow (n:=8) hb (pow_lt8 h8)
 unfold uses use
 rw[g_set _ _ _ _ h]
 by_cases e:id / 8=j / 8
 ·rw[if_pos e,toNat_of _ hz,Nat.testBit_or,Nat.testBit_two_pow,← e]
  by_cases e2:id % 8=j % 8
  ·have:id=j:=by omega
   subst this
   simp
  ·have:id≠j:=fun h=>e2 (by rw[h])
   simp[e2,this]
 ·rw[if_neg e]
  have:id≠j:=fun h=>e (by rw[h])
  simp[this]
def cs (t:ByteArray):List Cl:=Pg.cells (Pg.bts t)
def kd (t:ByteArray):Nat:=Pg.g (Pg.bts t) 0
def lvl (t:ByteArray):Nat:=Pg.g (Pg.bts t) 1
def has (lo hi k:ByteArray):Bool:=!Pg.lt k lo&&(hi.toList.isEmpty||Pg.lt k hi)
def pgOf (c:Cl):Nat:=if c.v.size=2 then Pk.beN c.v.data.toList else 0
def cellOf (k:ByteArray) (id:Nat):Cl:=⟨k,Pk.beS id 2⟩
def tow (L:List Cl) (k:ByteArray):Nat:=if Pg.isAt L k then Pg.plc L k else Pg.plc L k-1
def bLo (L:List Cl) (lo:ByteArray) (i:Nat):ByteArray:=if 0<i then(L.getD i ⟨eb,eb⟩).k else lo
def bHi (L:List Cl) (hi:ByteArray) (i:Nat):ByteArray:=if i+1<L.length then(L.getD (i+1) ⟨eb,eb⟩).k else hi
def told (t:ByteArray):List Cl:=if kd t=1 then cs t else(cs t).tail
structure Good (t lo hi:ByteArray):Prop where
 right:Pg.Right (Pg.bts t)
 kind:kd t=1∨(kd t=2/\lvl t≠0/\cs t≠[]/\((cs t).getD 0 ⟨eb,eb⟩).k=eb)
 keys:∀ c∈told t,has lo hi c.k=true
structure Nd where
 id:Nat
 tx:ByteArray
 lv:Nat
 cl:List Cl
 lo:ByteArray
 hi:ByteArray
 nx:Nat
def nodeOf (id:Nat) (t lo hi:ByteArray):Nd:=⟨id,t,lvl t,cs t,lo,hi,0⟩
structure Ok0 (V:Nat->ByteArray) (us:List UInt8) (ps l id:Nat) (lo hi:ByteArray):Prop where
 i0:0<id
 i1:id<ps
 us:uses us id=true
 good:Good (V id) lo hi
 lv:lvl (V id)=l
def Ok (V:Nat->ByteArray) (us:List UInt8) (ps:Nat):Nat->Nat->ByteArray->ByteArray->Prop
 | 0,id,lo,hi=>Ok0 V us ps 0 id lo hi/\kd (V id)=1
 | l+1,id,lo,hi=>Ok0 V us ps (l+1) id lo hi/\kd (V id)=2/\∀ i,(hi':i<(cs (V id)).length)->Ok V us ps l (pgOf (cs (V id))[i]) (bLo (cs (V id)) lo i) (bHi (cs (V id)) hi i)
def way (V:Nat->ByteArray) (k:ByteArray):Nat->Nat->ByteArray->ByteArray->List Nd
 | 0,id,lo,hi=>[nodeOf id (V id) lo hi]
 | l+1,id,lo,hi=>{ nodeOf id (V id) lo hi with nx:=tow (cs (V id)) k} :: way V k l (pgOf ((cs (V id)).getD (tow (cs (V id)) k) ⟨eb,eb⟩)) (bLo (cs (V id)) lo (tow (cs (V id)) k)) (bHi (cs (V id)) hi (tow (cs (V id)) k))
def conts (V:Nat->ByteArray):Nat->Nat->List Cl
 | 0,id=>cs (V id)
 | l+1,id=>((cs (V id)).map (fun c=>conts V l (pgOf c))).flatten
def ids (V:Nat->ByteArray):Nat->Nat->List Nat
 | 0,id=>[id]
 | l+1,id=>id :: ((cs (V id)).map (fun c=>ids V l (pgOf c))).flatten
theorem Ok.o0 {V:Nat->ByteArray} {us:List UInt8} {ps l id:Nat} {lo hi:ByteArray} (h:Ok V us ps l id lo hi):Ok0 V us ps l id lo hi:=by
 cases l with
 | zero=>exact h.1
 | succ l=>exact h.1
theorem way_length (V:Nat->ByteArray) (k:ByteArray):∀ (l id:Nat) (lo hi:ByteArray),(way V k l id lo hi).length=l+1
 | 0,_,_,_=>rfl
 | l+1,id,lo,hi=>by simp only[way,List.length_cons,way_length V k l]
structure El (sl el:TypeId) (k:Nat) (z:Value):Prop where
 un:Tryz.prog.underlying sl=some (.slice el)
 info:∃ i,Tryz.prog.info? el=some i/\i.zero=some z/\i.size=k/\i.bytes<=200
 zc:z.cells.size=k
 k0:0<k
theorem append_gen {sl el:TypeId} {k:Nat} {z:Value} (hE:El sl el k z) {w:World} {v:Value} {n:Nat} {xs:List Value} (hrow:w.ownsRow 0 el k v n xs) (ad:Addr) (hsp:ad.spot=none) (m c:Nat) (news:List Value) (hl:news.length=m*k)
  (hnews:∀ j u,news[j]?=some u->w.cell? (ad.add j)=some u) (h1:∀ u∈news,u.oneCell'=true) (hm:0<m) (hn:n+m<=100000) (ty:TypeId) :
  ∃ v' w',(Builtin.append_ #[sl,sl] ty #[v,.slice (some ad) m c]).run Tryz.prog w=.ok v' w'/\w'.ownsRow 0 el k v' (n+m) (xs++news)/\w.grownBy w' v.ownBlock/\(v'.ownBlock=v.ownBlock∨v'.ownBlock=some w.heap.size):=by
 obtain⟨i,hi,hz0,hz1,hz2⟩:=hE.info
 have hby:(n+m)*i.bytes<=140737488355328:=Nat.le_trans (Nat.mul_le_mul hn hz2) (by omega)
 obtain⟨v',w',hr,ho,hgr,_⟩:=run_append_own (P:=Tryz.prog) w 0 sl ty el i z k i.bytes hE.un hi hz0 hz1 rfl hE.zc hE.k0 v n xs hrow ad m c news hl hnews h1 (by unfold maxLen;omega) hby (Nat.zero_le _)
 refine⟨v',w',hr,ho,hgr,?_⟩
 have hl1:news.length=m*i.size:=by rw[hz1];exact hl
 rcases hrow.2 with⟨rfl,hn0⟩ |⟨b,cap,cur,rfl,hbg,hgg,hnc,hcm,hcs,htake⟩
 ·subst hn0
  have hr2:=run_append_nil (P:=Tryz.prog) w sl ty el i z hE.un hi hz0 ad m c news hl1 hnews hm (by omega) (by rw[Nat.zero_add] at hby;omega)
  rw[hr2] at hr
  injection hr with e1 e2
  subst e1
  exact Or.inr rfl
 ·by_cases hroom:n+m<=cap
  ·have hr2:=run_append_room (P:=Tryz.prog) w sl ty el i hE.un hi b n cap cur hgg ad m c news hl1 hnews h1 hroom (by rw[hz1,hcs,hl,← Nat.add_mul];exact Nat.mul_le_mul_right _ hroom)
   rw[hr2] at hr
   injection hr with e1 e2
   subst e1
   exact Or.inl rfl
  ·have holds:∀ j u,xs[j]?=some u->w.cell? ((⟨b,0,none⟩:Addr).add j)=some u:=by
    intro j u hu
    have hadd:(⟨b,0,none⟩:Addr).add j=⟨b,j,none⟩:=by unfold Addr.add;split <;> simp_all
    rw[hadd,cell_of_row w b j cur el (0,0) hgg]
    rw[← htake,List.getElem?_take] at hu
    split at hu
    ·simpa using hu
    ·cases hu
   have hr2:=run_append_grow (P:=Tryz.prog) w sl ty el i z hE.un hi hz0 ⟨b,0,none⟩ n cap xs (by rw[hz1,hrow.1]) holds ad m c news hl1 hnews (by omega) (by omega) (growslice_fits (by omega) (by omega))
   rw[hr2] at hr
   injection hr with e1 e2
   subst e1
   exact Or.inr rfl
theorem wpList_append_gen {ops:Array Oper} {rest:List Oper} {o:Oper} {act:Act} {Q:Exit->Act->World->Prop} {w:World} {sl el:TypeId} {k:Nat} {z:Value} (hE:El sl el k z) (hgd:o.guard=none) (s x:Operand)
  (ho:o.op=.call {callee:=.builtin .append,args:=#[s,x],argTypes:=#[sl,sl]}) {v:Value} {n:Nat} {xs:List Value} (hs:act.eval s=v) (hrow:w.ownsRow 0 el k v n xs)
  {ad:Addr} {m c:Nat} {news:List Value} (hx:act.eval x=.slice (some ad) m c) (hsp:ad.spot=none) (hl:news.length=m*k) (hnews:∀ j u,news[j]?=some u->w.cell? (ad.add j)=some u) (h1:∀ u∈news,u.oneCell'=true) (hm:0<m) (hn:n+m<=100000)
  (K:∀ v' w',w'.ownsRow 0 el k v' (n+m) (xs++news)->w.grownBy w' v.ownBlock->(v'.ownBlock=v.ownBlock∨v'.ownBlock=some w.heap.size)->wpList Tryz.prog ops Q rest (act.put o.dst v') w'):wpList Tryz.prog ops Q (o ::rest) act w:=by
 refine wpList_plain hgd fun K' hK=>?_
 obtain⟨v',w',hr,h2,h3,h4⟩:=append_gen hE hrow ad hsp m c news hl hnews h1 hm hn o.type
 unfold Oper.wp execOp
 simp only[ho,resolve,invoke,builtin,Sem.run_bind,Sem.run_pure,Result.andThen_ok,List.map_toArray,List.map_cons,List.map_nil,hs,hx,hr]
 exact hK _ _ (K v' w' h2 h3 h4)
structure Nv where
 id:Int
 tx:ByteArray
 lv:Int
 sl:Value
 lo:ByteArray
 hi:ByteArray
 nx:Int
def Nv.A (n:Nv):Array Value:=#[.int .i64 n.id,.string n.tx,.int .i64 n.lv,n.sl,.string n.lo,.string n.hi,.int .i64 n.nx]
def zN:Nv:=⟨0,eb,0,.slice none 0 0,eb,eb,0⟩
structure NdAt (w:World) (b:Nat) (n:Nv):Prop where
 blk:w.heap[b]?=some (.cells n.A 98)
section
variable {w w':World}{b:Nat}{n n':Nv}
theorem NdAt.c0 (h:NdAt w b n):w.cell? ⟨b,0,none⟩=some (.int .i64 n.id):=Joins.cell_of_block h.blk 0
theorem NdAt.c1 (h:NdAt w b n):w.cell? ⟨b,1,none⟩=some (.string n.tx):=Joins.cell_of_block h.blk 1
theorem NdAt.c2 (h:NdAt w b n):w.cell? ⟨b,2,none⟩=some (.int .i64 n.lv):=Joins.cell_of_block h.blk 2
theorem NdAt.c3 (h:NdAt w b n):w.cell? ⟨b,3,none⟩=some n.sl:=Joins.cell_of_block h.blk 3
theorem NdAt.c4 (h:NdAt w b n):w.cell? ⟨b,4,none⟩=some (.string n.lo):=Joins.cell_of_block h.blk 4
theorem NdAt.c5 (h:NdAt w b n):w.cell? ⟨b,5,none⟩=some (.string n.hi):=Joins.cell_of_block h.blk 5
theorem NdAt.c6 (h:NdAt w b n):w.cell? ⟨b,6,none⟩=some (.int .i64 n.nx):=Joins.cell_of_block h.blk 6
theorem NdAt.f (h:NdAt w b n) (i:Nat):w.frozen? ⟨b,i,none⟩=false:=Joins.unfrozen_of_block h.blk i
theorem NdAt.lt (h:NdAt w b n):b<w.heap.size:=(Array.getElem?_eq_some_iff.1 h.blk).1
theorem NdAt.below (h:NdAt w b n) (hb:Below w.heap.size w w'):NdAt w' b n:=⟨(hb.block b h.lt).trans h.blk⟩
theorem NdAt.of_block (h:NdAt w b n) (hb:w'.heap[b]?=w.heap[b]?):NdAt w' b n:=⟨hb.trans h.blk⟩
theorem NdAt.set (h:NdAt w b n) {k:Nat} {v:Value} (e:n.A.setIfInBounds k v=n'.A):NdAt (w.setCell ⟨b,k,none⟩ v) b n':=⟨by rw[← e];exact Joins.block_setCell h.blk _⟩
end
theorem nd_size (n:Nv):n.A.size=7:=rfl
theorem info_nd (n:Nv):(Tryz.prog.info? 98).map (·.size)=some n.A.size:=by
 have:(Tryz.prog.info? 98).map (·.size)=some 7:=by kernel_rfl
 exact this
theorem zero_nd (w:World):(zeroValue 98).run Tryz.prog w=.ok (.agg zN.A) w:=by kernel_rfl
theorem thn {w w1 w2:World} (h:Below w.heap.size w w1) (k:Below w1.heap.size w1 w2):Below w.heap.size w w2:=h.trans (k.mono h.size)
structure NewN (w w':World) (b:Nat) (n:Nv):Prop where
 nd:NdAt w' b n
 below:Below w.heap.size w w'
 eq:b=w.heap.size
structure PutN (w w':World) (b:Nat) (n:Nv):Prop where
 nd:NdAt w' b n
 off:Pk.Off b w w'
theorem PutN.below {w w':World} {b B:Nat} {n:Nv} (h:PutN w w' b n) (hB:B<=b) (hw:B<=w.heap.size):Below B w w':=h.off.below hB hw
section
variable {ops:Array Oper}{rest:List Oper}{o:Oper}{a:Act}{Q:Exit->Act->World->Prop}
theorem wpList_box_nd {n:Nv} (w:World) (hg:o.guard=none) (x:Operand) (hop:o.op=Op.box 98 x) (hx:a.eval x=.agg n.A)
  (h:∀ w' b,NewN w w' b n->wpList Tryz.prog ops Q rest (a.put o.dst (.pointer (some ⟨b,0,none⟩))) w'):wpList Tryz.prog ops Q (o ::rest) a w:=by
 refine wpList_plain hg fun K' hK'=>?_
 unfold Oper.wp
 simp[execOp,hop,hx,Instr.box,Result.andThen,Value.cells]
 exact hK' _ _ (h _ _ ⟨⟨(MapKept.heap_alloc w _).1⟩,(Below.refl _ _).alloc (Nat.le_refl _) _,rfl⟩)
theorem wpList_new_nd (w:World) (hg:o.guard=none) (hop:o.op=Op.alloc 98)
  (h:∀ w' b,NewN w w' b zN->wpList Tryz.prog ops Q rest (a.put o.dst (.pointer (some ⟨b,0,none⟩))) w'):wpList Tryz.prog ops Q (o ::rest) a w:=by
 refine wpList_plain hg fun K' hK'=>?_
 unfold Oper.wp
 simp[execOp,hop,Instr.alloc,zero_nd,Result.andThen,Value.cells]
 exact hK' _ _ (h _ _ ⟨⟨(MapKept.heap_alloc w _).1⟩,(Below.refl _ _).alloc (Nat.le_refl _) _,rfl⟩)
theorem wpList_load_nd {b:Nat} {n:Nv} (w:World) (hg:o.guard=none) (x:Operand) (hop:o.op=Op.load 98 x) (hx:a.eval x=.pointer (some ⟨b,0,none⟩)) (hs:NdAt w b n)
  (h:wpList Tryz.prog ops Q rest (a.put o.dst (.agg n.A)) w):wpList Tryz.prog ops Q (o ::rest) a w :=
 wpList_load_row hg 98 x hop b hx 98 _ (0,0) _ hs.blk Tryz.underlying98 rfl (info_nd n) h
theorem wpList_load_ndm {g of:Nat} {n:Nv} (w:World) (hg:o.guard=none) (x:Operand) (hop:o.op=Op.load 98 x) (hx:a.eval x=.pointer (some ⟨g,of,none⟩)) (hr:w.rangeAt g of n.A.toList)
  (h:wpList Tryz.prog ops Q rest (a.put o.dst (.agg n.A)) w):wpList Tryz.prog ops Q (o ::rest) a w :=
 wpList_load_mid hg 98 x hop g of hx _ _ hr Tryz.underlying98 rfl (info_nd n) h
theorem nd_one {n:Nv} (hs:n.sl.oneCell'=true):∀ v∈n.A.toList,v.oneCell'=true:=by
 intro v hv
 simp[Nv.A] at hv
 rcases hv with rfl |rfl |rfl |rfl |rfl |rfl |rfl
 all_goals first |rfl |exact hs
theorem setCells_nd {w:World} {b:Nat} {s:Nv} (h:NdAt w b s) (s':Nv) (h1:∀ v∈s'.A.toList,v.oneCell'=true):w.setCells b 0 s'.A.toList=w.setRow b s'.A:=by
 have hth:∀ j,j<7->((w.cell? ⟨b,0+j,none⟩).isSome=true):=fun j hj=>by
  rw[cell_of_row w b _ _ 98 (0,0) h.blk]
  simp[nd_size,hj]
 have e1:=run_storeCells_at Tryz.prog b 0 98 s'.A.toList 0 s.A w h.blk (by simp[nd_size]) h1
 have e2:=run_storeCells_cells (P:=Tryz.prog) b 0 s'.A.toList 0 w (fun j hj=>by have:=hth j (by simpa[nd_size] using hj);simpa using this) (fun j hj=>by have:=h.f (0+0+j);simpa using this) h1
 have e:(List.take (0+0) s.A.toList++s'.A.toList++List.drop (0+0+s'.A.toList.length) s.A.toList).toArray=s'.A:=rfl
 rw[e,e2] at e1
 simpa using e1
theorem wpList_put_nd {b:Nat} {s s':Nv} (w:World) (hg:o.guard=none) (x y:Operand) (hop:o.op=Op.store 98 x y)
  (hx:a.eval x=.pointer (some ⟨b,0,none⟩)) (hy:a.eval y=.agg s'.A) (hs:NdAt w b s) (hsl:s'.sl.oneCell'=true)
  (h:∀ w',PutN w w' b s'->wpList Tryz.prog ops Q rest (a.put o.dst undef) w'):wpList Tryz.prog ops Q (o ::rest) a w:=by
 have h1:=nd_one hsl
 refine wpList_store_mid hg 98 x y hop b 0 s'.A hx hy ?_ (info_nd s') (Array.all_eq_true_iff_forall_mem.2 (fun v hv=>h1 v (by simpa using hv))) ?_
 ·intro j hj
  refine⟨?_,hs.f _⟩
  rw[cell_of_row w b _ _ 98 (0,0) hs.blk]
  have:j<7:=hj
  simp[nd_size,this]
 ·rw[setCells_nd hs s' h1]
  refine h _ ⟨⟨setRow_heap w b _ _ 98 _ hs.blk⟩,⟨rfl,rfl,rfl,by simp,fun k _ hk=>setRow_other w b k _ hk⟩⟩
end
theorem results_nd2 {fn:Func} {p u:Tmp} (h:fn.results=#[.cell p 98,.tmp u]) (tmps:Array Value) (w:World) {b:Nat} {s:Nv}
  (hp:tmps.getD p undef=.pointer (some ⟨b,0,none⟩)) (hg:NdAt w b s):(results fn tmps).run Tryz.prog w=.ok (.tuple #[.agg s.A,tmps.getD u undef]) w:=by
 have hl:=run_loadVar_row (P:=Tryz.prog) w b 98 98 s.A (0,0) _ hg.blk Tryz.underlying98 rfl (info_nd s)
 have hp':tmps[p]?.getD undef=.pointer (some ⟨b,0,none⟩):=by simpa using hp
 simp only[results,h]
 simp[Sem.run_bind,Result.andThen,hp',asAddr,hl]
end Go.Proofs.YtpcnjncgilmehabGreat.Tr
