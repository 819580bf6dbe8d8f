import Derived.Test.YtdchjncnjgelhaaGreatMaa
import Derived.Lib.Bytealg
import Derived.Shelf.Abstract
import Derived.Deep.QuietTactic
import Derived.BigQuiet
import Derived.Deep.RegionHeldLaw
set_option linter.unusedVariables false
set_option linter.unusedSimpArgs false
set_option maxRecDepth 100000
namespace Go.Proofs.YtdchjncnjgelhaaGreat.Fd
open Go.RowKit Gm Go.Maps
structure Rc where
 kd:Int
 tx:Int
 pv:Int
 pg:Int
 ac:Int
 ky:ByteArray
 ol:ByteArray
 nw:ByteArray
 nx:Int
 ep:Int
 nd:Int
def Rc.A (s:Rc) (I T:Value):Array Value:=#[.int .i64 s.kd,.int .i64 s.tx,.int .i64 s.pv,.int .i64 s.pg,.int .i64 s.ac,.string s.ky,.string s.ol,.string s.nw,.int .i64 s.nx,I,T,.int .i64 s.ep,.int .i64 s.nd]
def actK (k:Int) (nw:ByteArray):Option Hs:=if k=3∨k=5 then some ⟨nw,true⟩ else if k=4 then some zH else none
def bhd (r:Rc):Option Hs:=actK (if r.kd=6 then r.ac else r.kd) r.nw
section
variable {W:Nat->Prop}{w w':World}{fb:Nat}{K:List CL}{n t:Int}
theorem neW (w:World) (x:Option Nat):(binOp .neq 139 (.map x) (.map none)).run Tryz.prog w=.ok (.bool (!x.isNone)) w:=run_neq_map_nil w _ _ _ x uW
theorem eqK (w:World) (x:Option Nat):(binOp .eql 138 (.map x) (.map none)).run Tryz.prog w=.ok (.bool x.isNone) w:=run_eql_map_nil w _ _ _ x uK
theorem isMade_ok {b:Nat} {u y:Value} (h:At w fb 141 #[u,.map (some b),y]):Calls Tryz.prog 84 #[.pointer (some ⟨fb,0,none⟩)] w fun e w'=>e=.returned (.bool true)/\w'=w:=by
 have c1:w.cell? ⟨fb,1,none⟩=some (.map (some b)):=h.c 1
 clear h
 have hq:=neW
 go_enter Tryz.func84,Tryz.ntmps84
 go_wp2
 go_ret
 exact⟨rfl,rfl⟩
structure NwF (w w':World) (fb:Nat):Prop where
 ex:∃ W,Fo W w' fb [] [] 0/\∀ j,W j->w.heap.size<=j
 bel:Below w.heap.size w w'
theorem New_ok (w:World):Calls Tryz.prog 52 #[] w fun e w'=>e=.returned (.pointer (some ⟨w.heap.size+1,0,none⟩))/\NwF w w' (w.heap.size+1):=by
 have hm:∀ t w,(Instr.makeMap t none).run Tryz.prog w=.ok (.map (some w.heap.size)) (w.alloc (.map #[] 0)):=fun t w=>rfl
 go_enter Tryz.func52,Tryz.ntmps52
 go_wp2
 go_ret
 have m1:=Mp.made w 3
 have b2:=bl1 (w:=w.alloc (.map #[] 0)) (.cells #[.slice none 0 0,.map (some w.heap.size),.int .i64 0] 141)
 refine⟨rfl,⟨fun j=>w.heap.size<=j/\j<w.heap.size+2,⟨⟨.slice none 0 0,w.heap.size,[],⟨?_,Row.nil _ _ _,?_,fun d hd=>(by cases hd),List.Pairwise.nil,fun d hd=>(by cases hd),fun d hd=>(by cases hd),⟨⟨by omega,by omega⟩,by omega,by omega⟩,fun g e=>(by cases e),fun d hd=>(by cases hd),List.Pairwise.nil⟩,rfl⟩,fun j hj=>?_⟩,fun j hj=>hj.1⟩,thn (bl1 _) b2⟩
 ·have:=At.new (w.alloc (.map #[] 0)) #[.slice none 0 0,.map (some w.heap.size),.int .i64 0] 141
  simpa using this
 ·exact(m1.bel b2).ext fun l=>by cases l <;> first |rfl |(rename_i q a;cases q <;> rfl)
 ·have:=hj.2
  simpa using this
theorem behind_any (r:Rc) (I T:Value) (w:World):Calls Tryz.prog 117 #[.agg (r.A I T)] w fun e w'=>e=.returned (.tuple #[.agg ((bhd r).getD zH).A,.bool (bhd r).isSome])/\Below w.heap.size w w':=by
 obtain⟨kd,tx,pv,pg,ac,ky,ol,nw,nx,ep,nd⟩:=r
 have h2:=stH
 have KK:Hid (∀ wx b1 w1 w2 b2,New wx w1 b1 54 (Rc.A ⟨kd,tx,pv,pg,ac,ky,ol,nw,nx,ep,nd⟩ I T)->New w1 w2 b2 136 zH.A->w2.cell? ⟨b1,0,none⟩=some (.int .i64 kd)/\w2.cell? ⟨b1,4,none⟩=some (.int .i64 ac)/\w2.cell? ⟨b1,7,none⟩=some (.string nw)):=fun wx b1 w1 w2 b2 N1 N2=>⟨(N1.is.bel N2.bel).c 0,(N1.is.bel N2.bel).c 4,(N1.is.bel N2.bel).c 7⟩
 have BB:Hid (∀ wx b1 w1 w2 b2 w3 A,New wx w1 b1 54 (Rc.A ⟨kd,tx,pv,pg,ac,ky,ol,nw,nx,ep,nd⟩ I T)->New w1 w2 b2 136 zH.A->Put w2 w3 b2 136 A->Below wx.heap.size wx w3):=fun wx b1 w1 w2 b2 w3 A N1 N2 P3=>N1.bel.trans ((N2.bel.trans ((P3.fr (·=b2) rfl).bel (fun j hj=>by rw[hj];rw[N2.eq];exact Nat.le_refl _) N2.bel.size)).mono N1.bel.size)
 by_cases h6:kd=6
 ·subst h6
  by_cases h3:ac=3∨ac=5
  ·have e1:bhd ⟨6,tx,pv,pg,ac,ky,ol,nw,nx,ep,nd⟩=some ⟨nw,true⟩:=by simp only[bhd,actK,if_true];rw[if_pos h3]
   rw[e1]
   clear e1
   rcases h3 with rfl |rfl
   all_goals
    go_enter Tryz.func117,Tryz.ntmps117
    go_wp2_with first
     | (refine wpList_box_at (A:=Rc.A ⟨_,tx,pv,pg,_,ky,ol,nw,nx,ep,nd⟩ I T) _ rfl _ rfl rfl ?_;intro w1 b1 N1)
     | (refine wpList_new_at (A:=zH.A) _ zKv rfl rfl ?_;intro w2 b2 N2;obtain⟨k0,k4,k7⟩:=KK.out _ _ _ _ _ N1 N2)
     | (refine wpList_put_at (A:=zH.A) (A':=Hs.A ⟨nw,true⟩) h2 _ rfl _ _ rfl rfl rfl N2.is rfl rfl (oneH _) ?_;intro w3 P3)
    refine bodyPost_ret (results_at2 h2 rfl _ _ rfl P3.is rfl) rfl ?_
    exact⟨rfl,BB.out _ _ _ _ _ _ _ N1 N2 P3⟩
  ·by_cases h4:ac=4
   ·have e1:bhd ⟨6,tx,pv,pg,ac,ky,ol,nw,nx,ep,nd⟩=some zH:=by simp only[bhd,actK,if_true];rw[if_neg h3,if_pos h4]
    rw[e1]
    clear e1
    subst h4
    go_enter Tryz.func117,Tryz.ntmps117
    go_wp2_with first
     | (refine wpList_box_at (A:=Rc.A ⟨_,tx,pv,pg,_,ky,ol,nw,nx,ep,nd⟩ I T) _ rfl _ rfl rfl ?_;intro w1 b1 N1)
     | (refine wpList_new_at (A:=zH.A) _ zKv rfl rfl ?_;intro w2 b2 N2;obtain⟨k0,k4,k7⟩:=KK.out _ _ _ _ _ N1 N2)
     | (refine wpList_put_at (A:=zH.A) (A':=zH.A) h2 _ rfl _ _ rfl rfl rfl N2.is rfl rfl (oneH _) ?_;intro w3 P3)
    refine bodyPost_ret (results_at2 h2 rfl _ _ rfl P3.is rfl) rfl ?_
    exact⟨rfl,BB.out _ _ _ _ _ _ _ N1 N2 P3⟩
   ·have e1:bhd ⟨6,tx,pv,pg,ac,ky,ol,nw,nx,ep,nd⟩=none:=by simp only[bhd,actK,if_true];rw[if_neg h3,if_neg h4]
    rw[e1]
    have h5:¬ ac=3:=fun e=>h3 (Or.inl e)
    have h7:¬ ac=5:=fun e=>h3 (Or.inr e)
    clear e1 h3
    go_enter Tryz.func117,Tryz.ntmps117
    go_wp2_with first
     | (refine wpList_box_at (A:=Rc.A ⟨_,tx,pv,pg,_,ky,ol,nw,nx,ep,nd⟩ I T) _ rfl _ rfl rfl ?_;intro w1 b1 N1)
     | (refine wpList_new_at (A:=zH.A) _ zKv rfl rfl ?_;intro w2 b2 N2;obtain⟨k0,k4,k7⟩:=KK.out _ _ _ _ _ N1 N2)
     | (refine wpList_put_at (A:=zH.A) (A':=zH.A) h2 _ rfl _ _ rfl rfl rfl N2.is rfl rfl (oneH _) ?_;intro w3 P3)
    refine bodyPost_ret (results_at2 h2 rfl _ _ rfl P3.is rfl) rfl ?_
    exact⟨rfl,BB.out _ _ _ _ _ _ _ N1 N2 P3⟩
 ·have h6b:(kd==6)=false:=by simpa using h6
  by_cases h3:kd=3∨kd=5
  ·have e1:bhd ⟨kd,tx,pv,pg,ac,ky,ol,nw,nx,ep,nd⟩=some ⟨nw,true⟩:=by simp only[bhd,actK];rw[if_neg h6];rw[if_pos h3]
   rw[e1]
   clear e1
   rcases h3 with rfl |rfl
   all_goals
    go_enter Tryz.func117,Tryz.ntmps117
    go_wp2_with first
     | (refine wpList_box_at (A:=Rc.A ⟨_,tx,pv,pg,_,ky,ol,nw,nx,ep,nd⟩ I T) _ rfl _ rfl rfl ?_;intro w1 b1 N1)
     | (refine wpList_new_at (A:=zH.A) _ zKv rfl rfl ?_;intro w2 b2 N2;obtain⟨k0,k4,k7⟩:=KK.out _ _ _ _ _ N1 N2)
     | (refine wpList_put_at (A:=zH.A) (A':=Hs.A ⟨nw,true⟩) h2 _ rfl _ _ rfl rfl rfl N2.is rfl rfl (oneH _) ?_;intro w3 P3)
    refine bodyPost_ret (results_at2 h2 rfl _ _ rfl P3.is rfl) rfl ?_
    exact⟨rfl,BB.out _ _ _ _ _ _ _ N1 N2 P3⟩
  ·by_cases h4:kd=4
   ·have e1:bhd ⟨kd,tx,pv,pg,ac,ky,ol,nw,nx,ep,nd⟩=some zH:=by simp only[bhd,actK];rw[if_neg h6];rw[if_neg h3,if_pos h4]
    rw[e1]
    clear e1
    subst h4
    go_enter Tryz.func117,Tryz.ntmps117
    go_wp2_with first
     | (refine wpList_box_at (A:=Rc.A ⟨_,tx,pv,pg,_,ky,ol,nw,nx,ep,nd⟩ I T) _ rfl _ rfl rfl ?_;intro w1 b1 N1)
     | (refine wpList_new_at (A:=zH.A) _ zKv rfl rfl ?_;intro w2 b2 N2;obtain⟨k0,k4,k7⟩:=KK.out _ _ _ _ _ N1 N2)
     | (refine wpList_put_at (A:=zH.A) (A':=zH.A) h2 _ rfl _ _ rfl rfl rfl N2.is rfl rfl (oneH _) ?_;intro w3 P3)
    refine bodyPost_ret (results_at2 h2 rfl _ _ rfl P3.is rfl) rfl ?_
    exact⟨rfl,BB.out _ _ _ _ _ _ _ N1 N2 P3⟩
   ·have e1:bhd ⟨kd,tx,pv,pg,ac,ky,ol,nw,nx,ep,nd⟩=none:=by simp only[bhd,actK];rw[if_neg h6];rw[if_neg h3,if_neg h4]
    rw[e1]
    have h5:¬ kd=3:=fun e=>h3 (Or.inl e)
    have h7:¬ kd=5:=fun e=>h3 (Or.inr e)
    clear e1 h3
    go_enter Tryz.func117,Tryz.ntmps117
    go_wp2_with first
     | (refine wpList_box_at (A:=Rc.A ⟨_,tx,pv,pg,_,ky,ol,nw,nx,ep,nd⟩ I T) _ rfl _ rfl rfl ?_;intro w1 b1 N1)
     | (refine wpList_new_at (A:=zH.A) _ zKv rfl rfl ?_;intro w2 b2 N2;obtain⟨k0,k4,k7⟩:=KK.out _ _ _ _ _ N1 N2)
     | (refine wpList_put_at (A:=zH.A) (A':=zH.A) h2 _ rfl _ _ rfl rfl rfl N2.is rfl rfl (oneH _) ?_;intro w3 P3)
    refine bodyPost_ret (results_at2 h2 rfl _ _ rfl P3.is rfl) rfl ?_
    exact⟨rfl,BB.out _ _ _ _ _ _ _ N1 N2 P3⟩
theorem cb_lt:∀ a b:List UInt8,Lib.compareBytes a b<0↔a<b
 | [],[]=>by simp[Lib.compareBytes]
 | [],b :: ys=>by simp[Lib.compareBytes]
 | a :: xs,[]=>by simp[Lib.compareBytes]
 | a :: xs,b :: ys=>by
  have ih:=cb_lt xs ys
  rw[List.cons_lt_cons_iff]
  unfold Lib.compareBytes
  by_cases h1:a<b
  ·rw[if_pos h1];simp[h1]
  ·rw[if_neg h1]
   by_cases h2:b<a
   ·rw[if_pos h2]
    have hne:a≠b:=fun e=>by subst e;exact h1 h2
    simp[h1,hne]
   ·rw[if_neg h2]
    have he:a=b:=by
     have h3:¬ a.toNat<b.toNat:=fun h=>h1 (UInt8.lt_iff_toNat_lt.2 h)
     have h4:¬ b.toNat<a.toNat:=fun h=>h2 (UInt8.lt_iff_toNat_lt.2 h)
     exact UInt8.toNat_inj.1 (by omega)
    subst he
    simp[ih,h1]
theorem cb_eq:∀ a b:List UInt8,Lib.compareBytes a b=0↔a=b
 | [],[]=>by simp[Lib.compareBytes]
 | [],b :: ys=>by simp[Lib.compareBytes]
 | a :: xs,[]=>by simp[Lib.compareBytes]
 | a :: xs,b :: ys=>by
  have ih:=cb_eq xs ys
  rw[List.cons.injEq]
  unfold Lib.compareBytes
  by_cases h1:a<b
  ·rw[if_pos h1]
   have hne:a≠b:=fun e=>by subst e;exact absurd h1 (by simp)
   simp[hne]
  ·rw[if_neg h1]
   by_cases h2:b<a
   ·rw[if_pos h2]
    have hne:a≠b:=fun e=>by subst e;exact h1 h2
    simp[hne]
   ·rw[if_neg h2]
    have he:a=b:=by
     have h3:¬ a.toNat<b.toNat:=fun h=>h1 (UInt8.lt_iff_toNat_lt.2 h)
     have h4:¬ b.toNat<a.toNat:=fun h=>h2 (UInt8.lt_iff_toNat_lt.2 h)
     exact UInt8.toNat_inj.1 (by omega)
    subst he
    simp[ih]
def cmpB (a b:ByteArray):Int:=Lib.compareBytes a.data.toList b.data.toList
theorem cmpB_lt {a b:ByteArray}:cmpB a b<0↔blt a b:=cb_lt _ _
theorem cmpB_eq {a b:ByteArray}:(cmpB a b==0)=decide (a=b):=by
 rw[Bool.eq_iff_iff,beq_iff_eq,decide_eq_true_iff]
 unfold cmpB
 rw[cb_eq]
 exact⟨ba_eq,fun h=>by rw[h]⟩
theorem cmpS (a b:ByteArray) (w:World):Calls Tryz.prog 150 #[.string a,.string b] w fun e w'=>e=.returned (.int .i64 (cmpB a b))/\w'=w:=by
 go_enter Tryz.func150,Tryz.ntmps150
 go_wp2
 rw[run_callFunc_extern Tryz.func184 (by kernel_rfl) (by kernel_rfl) (by kernel_rfl) (e:=Extern.BytealgCompare.compare) (by kernel_rfl),Lib.run_compareString]
 simp only[Result.andThen]
 rw[Oper.upon_value]
 go_wp2
 go_ret
 exact⟨rfl,rfl⟩
theorem cmpT (a b:ByteArray) (w:World):Calls Tryz.prog 120 #[.string a,.string b] w fun e w'=>e=.returned (.int .i64 (cmpB a b))/\w'=w:=by
 go_enter Tryz.func120,Tryz.ntmps120
 go_wp2_with (go_at_call 150;refine(cmpS _ _ _).mono ?_;rintro e w2 ⟨rfl,rfl⟩)
 go_ret
 exact⟨rfl,rfl⟩
theorem find1_any (k x key:ByteArray) (w:World):Calls Tryz.prog 119 #[.agg #[.string k,.string x],.string key] w fun e w'=>e=.returned (.int .i64 (cmpB k key))/\Below w.heap.size w w':=by
 go_enter Tryz.func119,Tryz.ntmps119
 go_wp2_with (go_at_call 120;refine(cmpT _ _ _).mono ?_;rintro e w2 ⟨rfl,rfl⟩)
 go_ret
 exact⟨rfl,(Below.refl _ _).alloc (Nat.le_refl _) _⟩
theorem row_at {a:Option Addr} {c:Nat} (h:Row w 69 2 (.slice a K.length c) (K.map encC)) {i:Nat} (hi:i<K.length):∃ g,a=some ⟨g,0,none⟩/\g<w.heap.size/\∀ w',Below w.heap.size w w'->w'.cell? ⟨g,i*2,none⟩=some (.string K[i].1)/\w'.cell? ⟨g,i*2+1,none⟩=some (.string K[i].2):=by
 obtain⟨g,ea,hg,hat⟩:=h.at_ (i:=i) (by rw[List.length_map];exact hi)
 refine⟨g,ea,hg,fun w' hb=>?_⟩
 have hra:=(hat w' (hb.block g hg)).1
 rw[List.getElem_map] at hra
 exact⟨by have:=hra 0 _ rfl;simpa using this,by have:=hra 1 _ rfl;simpa using this⟩
set_option maxHeartbeats 1000000 in
theorem Search_any (hr:Ris K) (hl:K.length<=1000) {a:Option Addr} (cap:Nat) (hc:Row w 69 2 (.slice a K.length cap) (K.map encC)) (key:ByteArray) :
  Calls Tryz.prog 118 #[.slice a K.length cap,.string key,.func (.func 119) #[] #[]] w fun e w'=>e=.returned (.tuple #[.int .i64 (plc K key:Nat),.bool (isK K key)])/\Below w.heap.size w w':=by
 have HF:Hid (∀ wx k x,Calls Tryz.prog 119 #[.agg #[.string k,.string x],.string key] wx fun e w'=>e=.returned (.int .i64 (cmpB k key))/\Below wx.heap.size wx w'):=fun wx k x=>find1_any k x key wx
 have eg:∀ args w,(callFunc 119 args).run Tryz.prog w=.ok (.enter 119 args) w:=fun args w=>by kernel_rfl
 have HC:Hid (Row w 69 2 (.slice a K.length cap) (K.map encC)):=hc
 have HR:Hid (Ris K):=hr
 have hx:=plc_le K key
 clear hc hr
 go_enter Tryz.func118,Tryz.ntmps118
 go_wp2
 go_loopw [9,10] (fun s5 s6 wr=>∃ (lo hi:Nat),s5=.int .i64 (lo:Int)/\s6=.int .i64 (hi:Int)/\lo<=plc K key/\plc K key<=hi/\hi<=K.length/\Below w.heap.size w wr) (fun s5 s6 _=>(intOf s6).toNat-(intOf s5).toNat)
 case atStart=>exact⟨0,K.length,rfl,rfl,Nat.zero_le _,hx,Nat.le_refl _,Below.refl _ _⟩
 case round =>
  obtain⟨lo,hi,rfl,rfl,hlo,hh,hin,hb⟩:=hrel
  by_cases hlt:lo<hi
  ·have hltI:(lo:Int)<(hi:Int):=by omega
   have hml:(lo+hi) / 2<K.length:=by omega
   obtain⟨bk,rfl,hbk,hcell⟩:=row_at HC.out (i:=(lo+hi) / 2) hml
   obtain⟨k0,k1⟩:=hcell _ hb
   have hm:(((lo+hi) / 2:Nat):Int)=((lo:Int)+(hi:Int)) / 2:=by omega
   have C:=HF.out
   by_cases hp:(lo+hi) / 2<plc K key
   ·have hq:cmpB K[(lo+hi) / 2].1 key<0:=cmpB_lt.2 (plc_lt hp)
    generalize K[(lo+hi) / 2]=q at *
    have C1:Hid (∀ wx,Calls Tryz.prog 119 #[.agg #[.string q.1,.string q.2],.string key] wx fun e w'=>e=.returned (.int .i64 (cmpB q.1 key))/\Below wx.heap.size wx w'):=fun wx=>C wx q.1 q.2
    clear C HF
    generalize cmpB q.1 key=c at *
    have HP:Hid _:=hp
    clear hp
    go_wp2_with (go_at_fn 119;refine(C1.out _).mono ?_;rintro e w2 ⟨rfl,b2⟩)
    go_roundw
    case rel =>
     have hq:(lo+hi) / 2<plc K key:=HP.out
     exact⟨(lo+hi) / 2+1,hi,by rw[← hm];rfl,rfl,by omega,hh,hin,thn hb b2⟩
    case measure=>simp[intOf];omega
   ·have hq:¬ cmpB K[(lo+hi) / 2].1 key<0:=fun h=>plc_ge HR.out hml (by omega) (cmpB_lt.1 h)
    generalize K[(lo+hi) / 2]=q at *
    have C1:Hid (∀ wx,Calls Tryz.prog 119 #[.agg #[.string q.1,.string q.2],.string key] wx fun e w'=>e=.returned (.int .i64 (cmpB q.1 key))/\Below wx.heap.size wx w'):=fun wx=>C wx q.1 q.2
    clear C HF
    generalize cmpB q.1 key=c at *
    have HP:Hid _:=hp
    clear hp
    go_wp2_with (go_at_fn 119;refine(C1.out _).mono ?_;rintro e w2 ⟨rfl,b2⟩)
    go_roundw
    case rel =>
     have hq:¬ (lo+hi) / 2<plc K key:=HP.out
     exact⟨lo,(lo+hi) / 2,rfl,by rw[← hm],hlo,by omega,by omega,thn hb b2⟩
    case measure=>simp[intOf];omega
  ·have e1:lo=plc K key:=by omega
   subst e1
   have hltI:¬ ((plc K key:Nat):Int)<(hi:Int):=by omega
   by_cases hp:plc K key<K.length
   ·have hpI:((plc K key:Nat):Int)<(K.length:Int):=by omega
    obtain⟨bk,rfl,hbk,hcell⟩:=row_at HC.out hp
    obtain⟨k0,k1⟩:=hcell _ hb
    have hi2:Hid (isK K key=decide ((K[plc K key]).1=key)):=(by unfold isK;rw[List.getElem?_eq_getElem hp]:isK K key=decide ((K[plc K key]).1=key))
    have C:=HF.out
    have hce:Hid ((cmpB K[plc K key].1 key==0)=decide (K[plc K key].1=key)):=cmpB_eq
    generalize K[plc K key]=q at *
    have C1:Hid (∀ wx,Calls Tryz.prog 119 #[.agg #[.string q.1,.string q.2],.string key] wx fun e w'=>e=.returned (.int .i64 (cmpB q.1 key))/\Below wx.heap.size wx w'):=fun wx=>C wx q.1 q.2
    clear C HF hcell
    generalize cmpB q.1 key=c at *
    go_wp2_with (go_at_fn 119;refine(C1.out _).mono ?_;rintro e w2 ⟨rfl,b2⟩)
    go_ret2
    exact⟨by rw[hi2.out,← hce.out];rfl,thn hb b2⟩
   ·have hpI:¬ ((plc K key:Nat):Int)<(K.length:Int):=by omega
    have hi2:Hid (isK K key=false):=(by unfold isK;rw[List.getElem?_eq_none (by omega)]:isK K key=false)
    go_wp2
    go_ret2
    exact⟨by rw[hi2.out];rfl,hb⟩
theorem find_any {u y:Value} {a:Option Addr} {cap:Nat} (hr:Ris K) (hl:K.length<=1000) (h:At w fb 141 #[.slice a K.length cap,u,y]) (hc:Row w 69 2 (.slice a K.length cap) (K.map encC)) (key:ByteArray) :
  Calls Tryz.prog 89 #[.pointer (some ⟨fb,0,none⟩),.string key] w fun e w'=>e=.returned (.tuple #[.int .i64 (plc K key:Nat),.bool (isK K key)])/\Below w.heap.size w w':=by
 have c0:w.cell? ⟨fb,0,none⟩=some (.slice a K.length cap):=h.c 0
 have C:=Search_any hr hl cap hc key
 clear h hc hl hr
 generalize K.length=n at *
 generalize plc K key=p at *
 generalize isK K key=b at *
 go_enter Tryz.func89,Tryz.ntmps89
 go_wp2_with (go_at_call 118;refine C.mono ?_;rintro e w2 ⟨rfl,b2⟩)
 go_ret2
 exact⟨rfl,b2⟩
end
section
variable {W:Nat->Prop}{w w':World}{fb bw:Nat}{v:Value}{K:List CL}{L:List Dv}{G:List Gt}{n t:Int}{r:Rc}{I T:Value}
theorem turn_none (h:bhd r=none) (I T:Value) (w:World):Calls Tryz.prog 87 #[.pointer (some ⟨fb,0,none⟩),.agg (r.A I T)] w fun e w'=>e=.returned (.tuple #[])/\Below w.heap.size w w':=by
 have C:=behind_any r I T
 rw[h] at C
 have C1:Hid (∀ w,Calls Tryz.prog 117 #[.agg (r.A I T)] w fun e w'=>e=.returned (.tuple #[.agg zH.A,.bool false])/\Below w.heap.size w w'):=C
 have h2:=stH
 clear C h
 go_enter Tryz.func87,Tryz.ntmps87
 go_wp2_with first
  | (refine wpList_box_at (A:=r.A I T) _ rfl _ rfl rfl ?_;intro w1 b1 N1)
  | (refine wpList_load_at stRc (A:=r.A I T) _ rfl _ rfl rfl N1.is rfl ?_)
  | (go_at_call 117;refine(C1.out _).mono ?_;rintro e w2 ⟨rfl,q2⟩)
  | (refine wpList_new_at (A:=zH.A) _ zKv rfl rfl ?_;intro w3 b3 N3)
  | (refine wpList_put_at (A:=zH.A) (A':=zH.A) h2 _ rfl _ _ rfl rfl rfl N3.is rfl rfl (oneH _) ?_;intro w4 P4)
 refine bodyPost_ret (results_none rfl _ _ _) rfl ?_
 exact⟨rfl,thn (thn N1.bel q2) (np_bel N3 P4)⟩
set_option maxHeartbeats 1000000 in
theorem turn_on {x:Hs} {d:Dv} (h:FoI W w fb v bw K L n) (hlt:∀ j,W j->j<w.heap.size) (hx:bhd r=some x) (hw:wfT r.tx) (hs:r.ky.size<=9223372036854775807) (hd:lkD L r.tx=some d) (hn2:d.g.ks.length<100000) (hl:L.length<100000) :
  Calls Tryz.prog 87 #[.pointer (some ⟨fb,0,none⟩),.agg (r.A I T)] w fun e w'=>e=.returned (.tuple #[])/\FoO W w w' fb K (putG (L.map (·.g)) r.tx r.ky x) n:=by
 have C:=behind_any r I T
 rw[hx] at C
 have C1:Hid (∀ w,Calls Tryz.prog 117 #[.agg (r.A I T)] w fun e w'=>e=.returned (.tuple #[.agg x.A,.bool true])/\Below w.heap.size w w'):=C
 have h2:=stH
 have H:Hid (FoI W w fb v bw K L n):=h
 have HL:Hid (∀ j,W j->j<w.heap.size):=hlt
 have HK:Hid (keyOf Tryz.prog 3 (.int .i64 r.tx)=some (.int .i64 r.tx)):=keyI hw
 have HS:Hid (keyOf Tryz.prog 9 (.string r.ky)=some (.string r.ky.data.toList)):=keyS hs
 have HN:Hid (L.length<100000/\d.g.ks.length<100000):=⟨hl,hn2⟩
 have HD:Hid (lkD L r.tx=some d):=hd
 have hq:=eqK
 clear C h hx hlt hw hs hd hn2 hl
 obtain⟨kd,tx,pv,pg,ac,ky,ol,nw,nx,ep,nd⟩:=r
 dsimp only at HK HS HD ⊢
 obtain⟨xv,xi⟩:=x
 go_enter Tryz.func87,Tryz.ntmps87
 go_wp2_with first
  | (refine wpList_box_at (A:=Rc.A ⟨kd,tx,pv,pg,ac,ky,ol,nw,nx,ep,nd⟩ I T) _ rfl _ rfl rfl ?_;intro w1 b1 N1)
  | (refine wpList_load_at stRc (A:=Rc.A ⟨kd,tx,pv,pg,ac,ky,ol,nw,nx,ep,nd⟩ I T) _ rfl _ rfl rfl N1.is rfl ?_)
  | (go_at_call 117;refine(C1.out _).mono ?_;rintro e w2 ⟨rfl,q2⟩)
  | (refine wpList_new_at (A:=zH.A) _ zKv rfl rfl ?_;intro w3 b3 N3)
  | (refine wpList_put_at (A:=zH.A) (A':=Hs.A ⟨xv,xi⟩) h2 _ rfl _ _ rfl rfl rfl N3.is rfl rfl (oneH _) ?_;intro w4 P4)
 have B4:Hid (Below w.heap.size w w4):=thn (thn N1.bel q2) (np_bel N3 P4)
 have H4:Hid (FoI W w4 fb v bw K L n):=H.out.keep (fun j hj=>B4.out.block j (HL.out j hj))
 have R4:Hid (At w4 b1 54 (Rc.A ⟨kd,tx,pv,pg,ac,ky,ol,nw,nx,ep,nd⟩ I T)):=(N1.is.bel q2).bel (np_bel N3 P4)
 have A4:Hid (At w4 b3 136 (Hs.A ⟨xv,xi⟩)):=P4.is
 have d1:w4.cell? ⟨fb,1,none⟩=some (.map (some bw)):=H4.out.is.c 1
 have e1:w4.cell? ⟨b1,1,none⟩=some (.int .i64 tx):=R4.out.c 1
 clear N1 q2 N3 P4
 have hl6:(Instr.lookup 139 (.map (some bw)) (.int .i64 tx) false).run Tryz.prog w4.drew=.ok (.map (some d.b)) w4.drew:=(by
  have:=(H4.out.wa.keep (w':=w4.drew) rfl).look1 KI uW (zWv _) HK.out
  rw[fW_at,HD.out] at this
  exact this)
 go_region_held_law (fun wx=>wx.cell? ⟨fb,1,none⟩=some (.map (some bw))/\wx.cell? ⟨b1,1,none⟩=some (.int .i64 tx)) (exact⟨d1,e1⟩) (fail)
 clear hl6
 go_wp2
 clear d1 e1
 have B5:Hid (Below w4.heap.size w4 w4.drew.drew):=bdr (bdr (Below.refl _ _) 1) 1
 have H5:Hid (FoI W w4.drew.drew fb v bw K L n):=H4.out.keep (fun j hj=>rfl)
 have R5:Hid (At w4.drew.drew b1 54 (Rc.A ⟨kd,tx,pv,pg,ac,ky,ol,nw,nx,ep,nd⟩ I T)):=R4.out.bel B5.out
 have A5:Hid (At w4.drew.drew b3 136 (Hs.A ⟨xv,xi⟩)):=A4.out.bel B5.out
 have HDm:=lkD_mem HD.out
 obtain⟨w6,hr6,M6,T6⟩:=(H5.out.ks d HDm.1).store KS uK (by have:=HN.out;omega) HS.out (.agg (Hs.A ⟨xv,xi⟩))
 have O6:Hid (∀ j,j≠d.b->w6.heap[j]?=w4.drew.drew.heap[j]?):=fun j hj=>turned_off T6 j hj
 have d1:w4.drew.drew.cell? ⟨fb,1,none⟩=some (.map (some bw)):=H5.out.is.c 1
 have e1:w4.drew.drew.cell? ⟨b1,1,none⟩=some (.int .i64 tx):=R5.out.c 1
 have e5:w4.drew.drew.cell? ⟨b1,5,none⟩=some (.string ky):=R5.out.c 5
 have a0:w4.drew.drew.cell? ⟨b3,0,none⟩=some (.string xv):=A5.out.c 0
 have a1:w4.drew.drew.cell? ⟨b3,1,none⟩=some (.bool xi):=A5.out.c 1
 have n1:=((H5.out.ks d HDm.1).ne H5.out.is).symm
 have n2:=((H5.out.ks d HDm.1).ne R5.out).symm
 have n3:=((H5.out.ks d HDm.1).ne A5.out).symm
 have d1':w6.cell? ⟨fb,1,none⟩=some (.map (some bw)):=(World.cell?_of_block (O6.out fb n1)).trans d1
 have e1':w6.cell? ⟨b1,1,none⟩=some (.int .i64 tx):=(World.cell?_of_block (O6.out b1 n2)).trans e1
 have e5':w6.cell? ⟨b1,5,none⟩=some (.string ky):=(World.cell?_of_block (O6.out b1 n2)).trans e5
 have a0':w6.cell? ⟨b3,0,none⟩=some (.string xv):=(World.cell?_of_block (O6.out b3 n3)).trans a0
 have a1':w6.cell? ⟨b3,1,none⟩=some (.bool xi):=(World.cell?_of_block (O6.out b3 n3)).trans a1
 have hl8:(Instr.lookup 139 (.map (some bw)) (.int .i64 tx) false).run Tryz.prog w4.drew.drew=.ok (.map (some d.b)) w4.drew.drew:=(by
  have:=(H5.out.wa).look1 KI uW (zWv _) HK.out
  rw[fW_at,HD.out] at this
  exact this)
 have M7:Hid (Mp w6 9 d.b (if(fK d.g.ks (.string ky.data.toList)).isSome then d.g.ks.length else d.g.ks.length+1) (updL (fK d.g.ks) (.string ky.data.toList) (some (.agg (Hs.A ⟨xv,xi⟩))))):=M6
 have F7:Hid (Fr W W w w6):=((Fr.of_below (thn B4.out B5.out) W)).trans (turned_fr T6 (H.out.w2 d HDm.1))
 unfold Hs.A at hr6
 clear M6 T6 n1 n2 n3
 go_region_held_law (fun wx=>wx.cell? ⟨fb,1,none⟩=some (.map (some bw))/\wx.cell? ⟨b1,1,none⟩=some (.int .i64 tx)/\wx.cell? ⟨b1,5,none⟩=some (.string ky)/\wx.cell? ⟨b3,0,none⟩=some (.string xv)/\wx.cell? ⟨b3,1,none⟩=some (.bool xi)) (first |exact⟨d1,e1,e5,a0,a1⟩ |exact⟨d1',e1',e5',a0',a1'⟩) (fail)
 go_end0
 have hsum:(fK d.g.ks (.string ky.data.toList)).isSome=(lkK d.g.ks ky.data.toList).isSome:=by rw[fK_at,Option.isSome_map]
 have M8:Mp w6 9 d.b (putH d.g.ks ky ⟨xv,xi⟩).length (fK (putH d.g.ks ky ⟨xv,xi⟩)):=by
  have:=M7.out
  rw[hsum,← putH_len (H.out.kn d HDm.1) ky ⟨xv,xi⟩] at this
  exact this.ext (fK_put _ _ _)
 have e9:putG (L.map (·.g)) tx ky ⟨xv,xi⟩=(L.map (tnD tx ky ⟨xv,xi⟩)).map (·.g):=by
  unfold putG
  rw[lkG_map,HD.out]
  simp[tnD,Function.comp_def]
 rw[e9]
 refine⟨rfl,W,⟨⟨v,bw,_,H.out.on HL.out HD.out (fun j hj hne=>(O6.out j hne).trans ((thn B4.out B5.out).block j hj)) (row_neMp H.out.row (H.out.ks d HDm.1)) M8,rfl⟩,fun j hj=>Nat.lt_of_lt_of_le (HL.out j hj) F7.out.size⟩,F7.out⟩
set_option maxHeartbeats 1000000 in
theorem turn_new {x:Hs} (h:FoI W w fb v bw K L n) (hlt:∀ j,W j->j<w.heap.size) (hx:bhd r=some x) (hw:wfT r.tx) (hs:r.ky.size<=9223372036854775807) (hd:lkD L r.tx=none) (hl:L.length<100000) :
  Calls Tryz.prog 87 #[.pointer (some ⟨fb,0,none⟩),.agg (r.A I T)] w fun e w'=>e=.returned (.tuple #[])/\FoO W w w' fb K (putG (L.map (·.g)) r.tx r.ky x) n:=by
 have C:=behind_any r I T
 rw[hx] at C
 have C1:Hid (∀ w,Calls Tryz.prog 117 #[.agg (r.A I T)] w fun e w'=>e=.returned (.tuple #[.agg x.A,.bool true])/\Below w.heap.size w w'):=C
 have h2:=stH
 have H:Hid (FoI W w fb v bw K L n):=h
 have HL:Hid (∀ j,W j->j<w.heap.size):=hlt
 have HK:Hid (keyOf Tryz.prog 3 (.int .i64 r.tx)=some (.int .i64 r.tx)):=keyI hw
 have HS:Hid (keyOf Tryz.prog 9 (.string r.ky)=some (.string r.ky.data.toList)):=keyS hs
 have HN:Hid (L.length<100000):=hl
 have HD:Hid (lkD L r.tx=none):=hd
 have hq:=eqK
 clear C h hx hlt hw hs hd hl
 obtain⟨kd,tx,pv,pg,ac,ky,ol,nw,nx,ep,nd⟩:=r
 dsimp only at HK HS HD ⊢
 obtain⟨xv,xi⟩:=x
 go_enter Tryz.func87,Tryz.ntmps87
 go_wp2_with first
  | (refine wpList_box_at (A:=Rc.A ⟨kd,tx,pv,pg,ac,ky,ol,nw,nx,ep,nd⟩ I T) _ rfl _ rfl rfl ?_;intro w1 b1 N1)
  | (refine wpList_load_at stRc (A:=Rc.A ⟨kd,tx,pv,pg,ac,ky,ol,nw,nx,ep,nd⟩ I T) _ rfl _ rfl rfl N1.is rfl ?_)
  | (go_at_call 117;refine(C1.out _).mono ?_;rintro e w2 ⟨rfl,q2⟩)
  | (refine wpList_new_at (A:=zH.A) _ zKv rfl rfl ?_;intro w3 b3 N3)
  | (refine wpList_put_at (A:=zH.A) (A':=Hs.A ⟨xv,xi⟩) h2 _ rfl _ _ rfl rfl rfl N3.is rfl rfl (oneH _) ?_;intro w4 P4)
 have B4:Hid (Below w.heap.size w w4):=thn (thn N1.bel q2) (np_bel N3 P4)
 have H4:Hid (FoI W w4 fb v bw K L n):=H.out.keep (fun j hj=>B4.out.block j (HL.out j hj))
 have R4:Hid (At w4 b1 54 (Rc.A ⟨kd,tx,pv,pg,ac,ky,ol,nw,nx,ep,nd⟩ I T)):=(N1.is.bel q2).bel (np_bel N3 P4)
 have A4:Hid (At w4 b3 136 (Hs.A ⟨xv,xi⟩)):=P4.is
 have d1:w4.cell? ⟨fb,1,none⟩=some (.map (some bw)):=H4.out.is.c 1
 have e1:w4.cell? ⟨b1,1,none⟩=some (.int .i64 tx):=R4.out.c 1
 have hl6:(Instr.lookup 139 (.map (some bw)) (.int .i64 tx) false).run Tryz.prog w4.drew=.ok (.map none) w4.drew:=(by
  have:=(H4.out.wa.keep (w':=w4.drew) rfl).look1 KI uW (zWv _) HK.out
  rw[fW_at,HD.out] at this
  exact this)
 go_region_held_law (fun wx=>wx.cell? ⟨fb,1,none⟩=some (.map (some bw))/\wx.cell? ⟨b1,1,none⟩=some (.int .i64 tx)) (exact⟨d1,e1⟩) (fail)
 clear hl6 d1 e1
 have HD2:Hid (FoI W w4.drew fb v bw K L n/\At w4.drew b1 54 (Rc.A ⟨kd,tx,pv,pg,ac,ky,ol,nw,nx,ep,nd⟩ I T)/\At w4.drew b3 136 (Hs.A ⟨xv,xi⟩)/\Below w.heap.size w w4.drew):=⟨H4.out.keep (fun j hj=>rfl),R4.out.bel (bdr (Below.refl _ _) 1),A4.out.bel (bdr (Below.refl _ _) 1),bdr B4.out 1⟩
 clear H4 R4 A4 B4
 generalize w4.drew=wd at *
 obtain⟨w3,hr7,M3,T3⟩:=((HD2.out.1.wa.bel (bl1 (.map #[] 0))).keep (w':=(wd.alloc (.map #[] 0)).drew) rfl).store KI uW (by have:=HN.out;omega) HK.out (.map (some wd.heap.size))
 have BA:Below wd.heap.size wd (wd.alloc (.map #[] 0)).drew:=bdr (bl1 _) 1
 have hm:∀ t w,(Instr.makeMap t none).run Tryz.prog w=.ok (.map (some w.heap.size)) (w.alloc (.map #[] 0)):=fun t w=>rfl
 have d1:wd.cell? ⟨fb,1,none⟩=some (.map (some bw)):=HD2.out.1.is.c 1
 have e1:wd.cell? ⟨b1,1,none⟩=some (.int .i64 tx):=HD2.out.2.1.c 1
 have f1:(wd.alloc (.map #[] 0)).drew.cell? ⟨fb,1,none⟩=some (.map (some bw)):=(HD2.out.1.is.bel BA).c 1
 have g1:(wd.alloc (.map #[] 0)).drew.cell? ⟨b1,1,none⟩=some (.int .i64 tx):=(HD2.out.2.1.bel BA).c 1
 have O3:Hid (∀ j,j≠bw->w3.heap[j]?=(wd.alloc (.map #[] 0)).heap[j]?):=fun j hj=>(turned_off T3 j hj :)
 have hfw:Hid (fb≠bw/\b1≠bw/\b3≠bw):=⟨(HD2.out.1.wa.ne HD2.out.1.is).symm,(HD2.out.1.wa.ne HD2.out.2.1).symm,(HD2.out.1.wa.ne HD2.out.2.2.1).symm⟩
 have d3:w3.cell? ⟨fb,1,none⟩=some (.map (some bw)):=(World.cell?_of_block (O3.out fb hfw.out.1)).trans f1
 have e3:w3.cell? ⟨b1,1,none⟩=some (.int .i64 tx):=(World.cell?_of_block (O3.out b1 hfw.out.2.1)).trans g1
 go_wp2
 go_region_held_law (fun wx=>wx.cell? ⟨fb,1,none⟩=some (.map (some bw))/\wx.cell? ⟨b1,1,none⟩=some (.int .i64 tx)) (first |exact⟨d1,e1⟩ |exact⟨f1,g1⟩ |exact⟨d3,e3⟩) (fail)
 have M3':Hid (Mp w3 3 bw (L.length+1) (updL (fW L) (.int .i64 tx) (some (.map (some wd.heap.size))))):=(by rw[fW_at,HD.out] at M3;exact M3)
 have SZ:w3.heap.size=wd.heap.size+1:=(turned_size T3).trans (by simp)
 have BB:=bl1 (w:=wd) (.map #[] 0)
 have HV:Hid (wd.heap.size<w3.heap.size/\(∀ j,j<w.heap.size->j≠bw->w3.heap[j]?=w.heap[j]?)/\Fr W W w w3/\Mp w3 9 wd.heap.size 0 (fK [])/\At w3 b1 54 (Rc.A ⟨kd,tx,pv,pg,ac,ky,ol,nw,nx,ep,nd⟩ I T)/\At w3 b3 136 (Hs.A ⟨xv,xi⟩)/\w.heap.size<=wd.heap.size/\bw<wd.heap.size):=(by
  have O:=O3.out
  obtain⟨a1,a2,a3,a4⟩:=HD2.out
  have lw:=a1.wa.lt
  have hs:=a4.size
  refine⟨by omega,fun j hj h2=>(O j h2).trans ((BB.block j (by omega)).trans (a4.block j hj)),((Fr.of_below a4 W).below BB).trans ((Fr.of_below (bdr (Below.refl _ _) 1) W).trans (turned_fr T3 a1.w1.2)),?_,(a2.bel BB).keep (O b1 hfw.out.2.1),(a3.bel BB).keep (O b3 hfw.out.2.2),hs,lw⟩
  exact((Mp.made wd 9).keep (w':=w3) (O wd.heap.size (by omega))).ext (fun l=>by cases l <;> rfl))
 clear M3 T3 O3 hr7 f1 g1 SZ BA hm d1 e1 d3 e3 BB
 generalize wd.heap.size=nb at *
 go_wp2
 have B5:Hid (Below w3.heap.size w3 w3.drew):=bdr (Below.refl _ _) 1
 have M5:Hid (Mp w3.drew 3 bw (L.length+1) (updL (fW L) (.int .i64 tx) (some (.map (some nb))))):=M3'.out.bel B5.out
 have R5:Hid (At w3.drew b1 54 (Rc.A ⟨kd,tx,pv,pg,ac,ky,ol,nw,nx,ep,nd⟩ I T)):=HV.out.2.2.2.2.1.bel B5.out
 have A5:Hid (At w3.drew b3 136 (Hs.A ⟨xv,xi⟩)):=HV.out.2.2.2.2.2.1.bel B5.out
 have F5:Hid (At w3.drew fb 141 #[v,.map (some bw),.int .i64 n]):=(H.out.is.keep (HV.out.2.1 fb (HL.out _ H.out.w1.1) hfw.out.1)).bel B5.out
 have K5:Hid (Mp w3.drew 9 nb 0 (fK [])):=HV.out.2.2.2.1.bel B5.out
 obtain⟨w6,hr6,M6,T6⟩:=K5.out.store KS uK (by omega) HS.out (.agg (Hs.A ⟨xv,xi⟩))
 have O6:Hid (∀ j,j≠nb->w6.heap[j]?=w3.drew.heap[j]?):=fun j hj=>turned_off T6 j hj
 have d1:w3.drew.cell? ⟨fb,1,none⟩=some (.map (some bw)):=F5.out.c 1
 have e1:w3.drew.cell? ⟨b1,1,none⟩=some (.int .i64 tx):=R5.out.c 1
 have e5:w3.drew.cell? ⟨b1,5,none⟩=some (.string ky):=R5.out.c 5
 have a0:w3.drew.cell? ⟨b3,0,none⟩=some (.string xv):=A5.out.c 0
 have a1:w3.drew.cell? ⟨b3,1,none⟩=some (.bool xi):=A5.out.c 1
 have n1:=(K5.out.ne F5.out).symm
 have n2:=(K5.out.ne R5.out).symm
 have n3:=(K5.out.ne A5.out).symm
 have d1':w6.cell? ⟨fb,1,none⟩=some (.map (some bw)):=(World.cell?_of_block (O6.out fb n1)).trans d1
 have e1':w6.cell? ⟨b1,1,none⟩=some (.int .i64 tx):=(World.cell?_of_block (O6.out b1 n2)).trans e1
 have e5':w6.cell? ⟨b1,5,none⟩=some (.string ky):=(World.cell?_of_block (O6.out b1 n2)).trans e5
 have a0':w6.cell? ⟨b3,0,none⟩=some (.string xv):=(World.cell?_of_block (O6.out b3 n3)).trans a0
 have a1':w6.cell? ⟨b3,1,none⟩=some (.bool xi):=(World.cell?_of_block (O6.out b3 n3)).trans a1
 have hl8:(Instr.lookup 139 (.map (some bw)) (.int .i64 tx) false).run Tryz.prog w3.drew=.ok (.map (some nb)) w3.drew:=(by
  have:=M5.out.look1 KI uW (zWv _) HK.out
  rw[updL_same _ (kI _)] at this
  exact this)
 have M7:Hid (Mp w6 9 nb 1 (updL (fK []) (.string ky.data.toList) (some (.agg (Hs.A ⟨xv,xi⟩))))):=M6
 have F7:Hid (w3.drew.mapTurned w6 nb):=T6
 unfold Hs.A at hr6
 clear M6 T6 n1 n2 n3
 go_region_held_law (fun wx=>wx.cell? ⟨fb,1,none⟩=some (.map (some bw))/\wx.cell? ⟨b1,1,none⟩=some (.int .i64 tx)/\wx.cell? ⟨b1,5,none⟩=some (.string ky)/\wx.cell? ⟨b3,0,none⟩=some (.string xv)/\wx.cell? ⟨b3,1,none⟩=some (.bool xi)) (first |exact⟨d1,e1,e5,a0,a1⟩ |exact⟨d1',e1',e5',a0',a1'⟩) (fail)
 go_end0
 obtain⟨v1,v2,v3,v4,v5,v6,v7,v8⟩:=HV.out
 have e9:putG (L.map (·.g)) tx ky ⟨xv,xi⟩=(L++[⟨⟨tx,[(ky,⟨xv,xi⟩)]⟩,nb⟩]:List Dv).map (·.g):=by
  unfold putG
  rw[lkG_map,HD.out]
  simp
 rw[e9]
 have M8:Mp w6 9 nb 1 (fK [(ky,⟨xv,xi⟩)]):=M7.out.ext (fK_put [] _ _)
 have S6:w6.heap.size=w3.heap.size:=(turned_size F7.out :)
 have G6:Fr (fun j=>j=nb) (fun j=>j=nb) w3 w6:=(Fr.of_below B5.out _).trans (turned_fr F7.out rfl)
 have FF:Fr W (fun j=>W j∨j=nb) w w6:=⟨G6.os.trans v3.os,G6.tape.trans v3.tape,G6.output.trans v3.output,by have:=v3.size;omega,fun j hj hn=>(G6.blk j (Nat.lt_of_lt_of_le hj v3.size) (by omega)).trans (v3.blk j hj hn),fun j hj=>hj.imp id (fun e=>by omega)⟩
 refine⟨rfl,fun j=>W j∨j=nb,⟨⟨v,bw,_,H.out.snoc HL.out HD.out (nb:=nb) v7 (fun j hj hne=>(G6.blk j (by have:=v3.size;omega) (by omega)).trans (v2 j hj hne)) (row_neMp H.out.row H.out.wa) (M3'.out.keep (G6.blk bw M3'.out.lt (by omega))) M8,rfl⟩,fun j hj=>hj.elim (fun hj=>Nat.lt_of_lt_of_le (HL.out j hj) FF.size) (fun e=>by omega)⟩,FF⟩
theorem turn_any (h:Fo W w fb K G n) (hw:wfT r.tx) (hs:r.ky.size<=9223372036854775807) (hn2:∀ g∈G,g.ks.length<100000) (hl:G.length<100000) :
  Calls Tryz.prog 87 #[.pointer (some ⟨fb,0,none⟩),.agg (r.A I T)] w fun e w'=>e=.returned (.tuple #[])/\FoO W w w' fb K (match bhd r with |some x=>putG G r.tx r.ky x |none=>G) n:=by
 cases hx:bhd r with
 | none =>
  refine(turn_none hx I T w).mono ?_
  rintro e w' ⟨he,hb⟩
  exact⟨he,W,h.bel hb,Fr.of_below hb W⟩
 | some x =>
  obtain⟨v,bw,L,hI,rfl⟩:=h.ex
  rw[List.length_map] at hl
  cases hd:lkD L r.tx with
  | none=>exact turn_new hI h.lt hx hw hs hd hl
  | some d=>exact turn_on hI h.lt hx hw hs hd (hn2 _ (List.mem_map.2 ⟨d,(lkD_mem hd).1,rfl⟩)) hl
end
theorem flat_take:∀ (K:List CL) (i:Nat),(K.map encC).flatten.take (i*2)=((K.take i).map encC).flatten
 | [],i=>by simp
 | c :: K,0=>by simp
 | c :: K,i+1=>by
  have:=flat_take K i
  simp only[List.map_cons,List.flatten_cons,List.take_succ_cons]
  rw[show(i+1)*2=2+i*2 by omega,List.take_append,show(encC c).length=2 from rfl,show 2+i*2-2=i*2 by omega,this,List.take_of_length_le (by show 2<=2+i*2;omega)]
theorem flat_drop:∀ (K:List CL) (i:Nat),(K.map encC).flatten.drop (i*2)=((K.drop i).map encC).flatten
 | [],i=>by simp
 | c :: K,0=>by simp
 | c :: K,i+1=>by
  have:=flat_drop K i
  simp only[List.map_cons,List.flatten_cons,List.drop_succ_cons]
  rw[show(i+1)*2=2+i*2 by omega,List.drop_append,show(encC c).length=2 from rfl,show 2+i*2-2=i*2 by omega,this,List.drop_of_length_le (by show 2<=2+i*2;omega)]
  rfl
theorem flat_one (K:List CL):∀ u∈(K.map encC).flatten,u.oneCell'=true:=by
 intro u hu
 obtain⟨l,hl,hu⟩:=List.mem_flatten.1 hu
 obtain⟨c,_,rfl⟩:=List.mem_map.1 hl
 simp only[encC,List.mem_cons,List.not_mem_nil,or_false] at hu
 rcases hu with rfl |rfl <;> rfl
theorem enc_len (K:List CL):∀ c∈K.map encC,c.length=2:=by
 intro c hc
 obtain⟨x,_,rfl⟩:=List.mem_map.1 hc
 rfl
theorem flat_ln (K:List CL):(K.map encC).flatten.length=K.length*2:=by rw[flat_len (enc_len K),List.length_map]
structure RwO (w w':World) (v v':Value) (K:List CL):Prop where
 row:Row w' 69 2 v' (K.map encC)
 gr:w.grownBy w' v.ownBlock
 own:v'.ownBlock=v.ownBlock∨∃ g,v'.ownBlock=some g/\w.heap.size<=g
section
variable {w w':World}{v:Value}{K:List CL}
theorem Delete_row {a:Option Addr} {c i:Nat} (h:Row w 69 2 (.slice a K.length c) (K.map encC)) (hi:i<K.length) (hn:K.length<=1000) :
  Calls Tryz.prog 115 #[.slice a K.length c,.int .i64 (i:Int),.int .i64 ((i:Int)+1)] w fun e w'=>e=.returned (.slice a (K.length-1) c)/\RwO w w' (.slice a K.length c) (.slice a (K.length-1) c) (K.take i++K.drop (i+1)):=by
 rcases h.row.2 with⟨_,h0⟩ |⟨g,cap,cur,e,hB,hg,h3,h4,h5,h6⟩
 ·rw[List.length_map] at h0;omega
 ·rw[List.length_map] at h3 h6 e
  injection e with e1 e2 e3
  subst e1 e3
  refine(Delete_any (i:=i) hg h4 h5 h6 (flat_ln K) (flat_one K) hi h3 hn).mono ?_
  rintro e w' ⟨rfl,r1,r2⟩
  refine⟨rfl,⟨enc_len _,?_⟩,r2,Or.inl rfl⟩
  have e9:del2 (K.map encC).flatten i=((K.take i++K.drop (i+1)).map encC).flatten:=by
   unfold del2
   rw[flat_take,flat_drop,List.map_append,List.flatten_append]
  rw[e9] at r1
  rw[List.length_map,List.length_append,List.length_take,List.length_drop,show min i K.length+(K.length-(i+1))=K.length-1 by omega]
  exact r1
theorem Insert_row {i vb:Nat} {p t:ByteArray} (h:Row w 69 2 v (K.map encC)) (hi:i<=K.length) (hn:K.length<=1000) (hb:At w vb 69 #[.string p,.string t]) (hne:v.ownBlock≠some vb) :
  Calls Tryz.prog 116 #[v,.int .i64 (i:Int),.slice (some ⟨vb,0,none⟩) 1 1] w fun e w'=>∃ v',e=.returned v'/\RwO w w' v v' (K.take i++[(p,t)]++K.drop i):=by
 have hr:=h.row
 rw[List.length_map] at hr
 refine(Insert_any hr (flat_one K) hi hn vb p t hb.blk hne).mono ?_
 rintro e w' ⟨v',rfl,r1,r2,r3⟩
 refine⟨v',rfl,⟨enc_len _,?_⟩,r2,r3⟩
 have e9:ins2 (K.map encC).flatten i (.string p) (.string t)=((K.take i++[(p,t)]++K.drop i).map encC).flatten:=by
  unfold ins2
  rw[flat_take,flat_drop,List.map_append,List.map_append,List.flatten_append,List.flatten_append]
  rfl
 rw[e9] at r1
 rw[List.length_map,List.length_append,List.length_append,List.length_take,List.length_drop,List.length_singleton,show min i K.length+1+(K.length-i)=K.length+1 by omega]
 exact r1
end
def mt (o:Option Hs) (q:CL) (K:List CL):Prop:=match o with
 | some h=>h.is=true/\q.2=h.v
 | none=>q∈K
def dnK (ks:List (ByteArray × Hs)) (left:Lit->Bool) (k:ByteArray):Option Hs:=cond (left (.string k.data.toList)) none ((lkK ks k.data.toList).map (·.2))
structure CmP (K K':List CL) (ks:List (ByteArray × Hs)) (left:Lit->Bool) (cnt B:Nat):Prop where
 up:Ris K'
 mem:∀ q,q∈K'↔mt (dnK ks left q.1) q K
 le:K'.length+cnt<=B
def cmsK (K:List CL) (ks:List (ByteArray × Hs)):List CL:=ks.foldl (fun K p=>comK K p.1 p.2) K
theorem cmsK_ris {ks:List (ByteArray × Hs)}:∀ {K:List CL},Ris K->Ris (cmsK K ks):=by
 induction ks with
 | nil=>intro K h;exact h
 | cons p ks ih=>intro K h;exact ih (comK_ris h p.1 p.2)
theorem cmsK_mem {ks:List (ByteArray × Hs)}:∀ {K:List CL},Ris K->(ks.Pairwise fun a b=>a.1.data.toList≠b.1.data.toList)->∀ q,q∈cmsK K ks↔mt ((lkK ks q.1.data.toList).map (·.2)) q K:=by
 induction ks with
 | nil=>intro K h _ q;rfl
 | cons p ks ih =>
  intro K h hp q
  rw[List.pairwise_cons] at hp
  show q∈cmsK (comK K p.1 p.2) ks↔_
  rw[ih (comK_ris h p.1 p.2) hp.2 q]
  by_cases e:p.1.data.toList=q.1.data.toList
  ·have h0:lkK ks q.1.data.toList=none:=lkK_none.2 fun x hx e2=>hp.1 x hx (e.trans e2.symm)
   have h1:lkK (p ::ks) q.1.data.toList=some p:=by simp only[lkK,List.find?_cons,e,beq_self_eq_true]
   rw[h0,h1]
   show q∈comK K p.1 p.2↔_
   rw[comK_mem h,if_pos (ba_eq e).symm]
   rfl
  ·have h1:lkK (p ::ks) q.1.data.toList=lkK ks q.1.data.toList:=by
    have:(p.1.data.toList==q.1.data.toList)=false:=by simpa using e
    simp only[lkK,List.find?_cons,this]
   rw[h1]
   cases lkK ks q.1.data.toList with
   | some x=>rfl
   | none =>
    show q∈comK K p.1 p.2↔q∈K
    rw[comK_mem h,if_neg (fun e2=>e (by rw[e2]))]
section
variable {K K':List CL}{ks:List (ByteArray × Hs)}{left:Lit->Bool}{cnt B:Nat}
theorem CmP.start (h:Ris K) (hB:K.length+cnt<=B):CmP K K ks (fun l=>(fK ks l).isSome) cnt B:=by
 refine⟨h,fun q=>?_,hB⟩
 have:dnK ks (fun l=>(fK ks l).isSome) q.1=none:=by
  unfold dnK
  dsimp only
  rw[fK_at,Option.isSome_map]
  cases lkK ks q.1.data.toList <;> rfl
 rw[this]
 rfl
theorem CmP.step {p:ByteArray × Hs} {cnt2:Nat} (h:CmP K K' ks left cnt B) (hp:lkK ks p.1.data.toList=some p) (hc:cnt2<cnt):CmP K (comK K' p.1 p.2) ks (fun z=>left z&&!z.sameKey (.string p.1.data.toList)) cnt2 B:=by
 refine⟨comK_ris h.up _ _,fun q=>?_,by have:=comK_len K' p.1 p.2;have:=h.le;omega⟩
 rw[comK_mem h.up]
 by_cases e:q.1=p.1
 ·rw[if_pos e]
  have e3:(Lit.string p.1.data.toList).sameKey (.string p.1.data.toList)=true:=WideAt.sameKey_self (kS _)
  have:dnK ks (fun z=>left z&&!z.sameKey (.string p.1.data.toList)) q.1=some p.2:=by
   unfold dnK
   dsimp only
   rw[e,e3,hp]
   simp
  rw[this]
  rfl
 ·rw[if_neg e]
  have e3:(Lit.string q.1.data.toList).sameKey (.string p.1.data.toList)=false:=sameKey_ne (fun e2=>e (ba_eq (by injection e2)))
  have:dnK ks (fun z=>left z&&!z.sameKey (.string p.1.data.toList)) q.1=dnK ks left q.1:=by
   unfold dnK
   dsimp only
   rw[e3]
   simp
  rw[this]
  exact h.mem q
theorem CmP.done (h:CmP K K' ks left cnt B) (hl:∀ l,left l=false) (hk:ks.Pairwise fun a b=>a.1.data.toList≠b.1.data.toList) (hr:Ris K):K'=cmsK K ks:=by
 refine ris_uniq h.up (cmsK_ris hr) fun q=>?_
 rw[h.mem q,cmsK_mem hr hk q]
 have:dnK ks left q.1=(lkK ks q.1.data.toList).map (·.2):=by
  unfold dnK
  rw[hl]
  simp
 rw[this]
end
structure CmM (w0 wr:World) (fb bw db rb m:Nat) (v v1:Value) (K1:List CL) (f:Lit->Option Value) (left:Lit->Bool) (cnt:Nat) (n:Int):Prop where
 is:At wr fb 141 #[v1,.map (some bw),.int .i64 n]
 row:Row wr 69 2 v1 (K1.map encC)
 r:Mr wr 9 db rb m f left cnt
 fr:Fr (fun j=>j=fb∨v.ownBlock=some j) (fun j=>j=fb∨v1.ownBlock=some j∨j=rb) w0 wr
section
variable {w0 wr w2 w3 w':World}{fb bw db rb m cnt cnt2:Nat}{v v1 v2:Value}{K1 K2:List CL}{f:Lit->Option Value}{left l2:Lit->Bool}{n:Int}
theorem Mr.blkR (h:Mr wr 9 db rb m f left cnt):∃ x y z u,wr.heap[rb]?=some (.mapIter x y z u):=by
 obtain⟨D,⟨es,cl,si,se,c0,h1,h2,h3,h4,h5,h6⟩,hv⟩:=h.ex
 exact⟨_,_,_,_,h5⟩
theorem CmM.rf (h:CmM w0 wr fb bw db rb m v v1 K1 f left cnt n):rb≠fb/\v1.ownBlock≠some rb/\db≠fb/\v1.ownBlock≠some db/\v1.ownBlock≠some fb/\rb≠db:=by
 obtain⟨x,y,z,u,hb⟩:=Mr.blkR h.r
 refine⟨fun e=>?_,fun e=>?_,h.r.mp.ne h.is,row_neMp h.row h.r.mp,h.row.ne (g:=0) h.is (by decide),h.r.ne⟩
 ·rw[e,h.is.blk] at hb;cases hb
 ·obtain⟨cur,hc⟩:=h.row.blkAt e
  rw[hc] at hb;cases hb
theorem CmM.below (h:CmM w0 wr fb bw db rb m v v1 K1 f left cnt n) (hb:Below wr.heap.size wr w'):CmM w0 w' fb bw db rb m v v1 K1 f left cnt n :=
 ⟨h.is.bel hb,h.row.bel hb,h.r.bel hb,h.fr.below hb⟩
theorem CmM.next (h:CmM w0 wr fb bw db rb m v v1 K1 f left cnt n) (hr:Mr w2 9 db rb m f l2 cnt2) (ho:∀ j,j≠rb->w2.heap[j]?=wr.heap[j]?) (hf:Fr (·=rb) (·=rb) wr w2):CmM w0 w2 fb bw db rb m v v1 K1 f l2 cnt2 n:=by
 obtain⟨n1,n2,_⟩:=h.rf
 refine⟨h.is.keep (ho fb n1.symm),h.row.keep (fun g e=>ho g (fun e2=>n2 (by rw[← e2];exact e))),hr,h.fr.trans ((hf.wide (V:=fun j=>j=fb∨v1.ownBlock=some j∨j=rb) (fun j hj=>Or.inr (Or.inr hj))).more (fun j hj=>Or.inl hj))⟩
theorem CmM.kept (h:CmM w0 wr fb bw db rb m v v1 K1 f left cnt n) (o:RwO wr w2 v1 v2 K2) (e3:w3=w2.setCell ⟨fb,0,none⟩ v2):CmM w0 w3 fb bw db rb m v v2 K2 f left cnt n:=by
 obtain⟨n1,n2,n3,n4,n5,n6⟩:=h.rf
 have k:∀ j,j<wr.heap.size->v1.ownBlock≠some j->w2.heap[j]?=wr.heap[j]?:=fun j hj hn=>o.gr.block j hj (fun e=>hn e.symm)
 have hsz:wr.heap.size<=w2.heap.size:=o.gr.size
 have off:∀ j,j≠fb->w3.heap[j]?=w2.heap[j]?:=fun j hj=>by rw[e3];exact Below.heap_setCell w2 _ v2 j hj
 have o2:v2.ownBlock≠some fb:=fun e=>by
  rcases o.own with h1 |⟨g,h1,h2⟩
  ·exact n5 (h1.symm.trans e)
  ·rw[h1] at e;cases e;have:=h.is.lt;omega
 have f2:At w2 fb 141 #[v1,.map (some bw),.int .i64 n]:=h.is.keep (k fb h.is.lt n5)
 refine⟨?_,o.row.keep (fun g e=>off g (fun e2=>o2 (by rw[← e2];exact e))),(h.r.keep (k db h.r.mp.lt n4) (k rb h.r.lt n2)).keep (off db n3) (off rb n1),h.fr.trans ?_⟩
 ·rw[e3]
  have:=f2.set 0 v2
  simpa using this
 ·have h1:Fr (fun j=>j=fb∨v1.ownBlock=some j∨j=rb) (fun j=>j=fb∨v1.ownBlock=some j∨j=rb) wr w2:=Fr.grown o.gr (fun g e=>Or.inr (Or.inl e))
  rw[e3]
  refine(h1.set (Or.inl rfl) 0 v2).more fun j hj=>?_
  rcases hj with e |e |e
  ·exact Or.inl (Or.inl e)
  ·rcases o.own with h5 |⟨g,h5,h6⟩
   ·exact Or.inl (Or.inr (Or.inl (h5.symm.trans e)))
   ·rw[h5] at e;cases e;exact Or.inr h6
  ·exact Or.inl (Or.inr (Or.inr e))
end
end Go.Proofs.YtdchjncnjgelhaaGreat.Fd
