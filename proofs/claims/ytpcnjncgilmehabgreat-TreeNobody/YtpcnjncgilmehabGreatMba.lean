import Derived.Test.YtpcnjncgilmehabGreatMaz
set_option linter.unusedVariables false
set_option linter.unusedSimpArgs false
set_option maxRecDepth 100000
namespace Go.Proofs.YtpcnjncgilmehabGreat.Tr
open Go.RowKit Go.Maps Go.ChangeMaps
abbrev Ims:=List (Nat × ByteArray)
def imI (im:Ims):List Im:=im.map (fun p=>((p.1:Int),p.2))
theorem imI_length (im:Ims):(imI im).length=im.length:=by simp[imI]
def pos (im:Ims) (id:Nat):Nat:=im.findIdx (fun p=>decide (id<=p.1))
def inn (im:Ims) (id:Nat):Bool:=match im[pos im id]? with
 | some p=>p.1==id
 | none=>false
def Rise (im:Ims):Prop:=im.Pairwise (fun a b=>a.1<b.1)
theorem pos_le (im:Ims) (id:Nat):pos im id<=im.length:=List.findIdx_le_length
theorem pos_lt {im:Ims} {id i:Nat} (h:i<pos im id):(im[i]'(Nat.lt_of_lt_of_le h (pos_le im id))).1<id:=by
 have:=List.not_of_lt_findIdx h
 simpa using this
theorem pos_ge {im:Ims} (hr:Rise im) {id i:Nat} (hi:i<im.length) (h:pos im id<=i):id<=im[i].1:=by
 have h1:pos im id<im.length:=by omega
 have h2:decide (id<=(im[pos im id]'h1).1)=true:=List.findIdx_getElem (w:=h1)
 have h2:id<=(im[pos im id]'h1).1:=by simpa using h2
 by_cases e:pos im id=i
 ·subst e;exact h2
 ·have:=List.pairwise_iff_getElem.1 hr (pos im id) i h1 hi (by omega)
  omega
theorem find1_any (w:World) (p:Nat) (t:ByteArray) (id:Nat):Calls Tryz.prog 175 #[.agg #[.int .i64 (p:Int),.string t],.int .i64 (id:Int)] w fun e w'=>e=.returned (.int .i64 (cmpI (p:Int) (id:Int)))/\Below w.heap.size w w':=by
 have CC:Hid (∀ wx,Calls Tryz.prog 143 #[.int .i64 (p:Int),.int .i64 (id:Int)] wx fun e w'=>e=.returned (.int .i64 (cmpI (p:Int) (id:Int)))/\w'=wx):=fun wx=>Compare_int _ _ wx
 generalize cmpI (p:Int) (id:Int)=c at *
 go_enter Tryz.func175,Tryz.ntmps175
 go_wp2_with (go_at_call 143;refine(CC.out _).mono ?_;rintro e w1 ⟨rfl,rfl⟩)
 go_ret
 exact⟨rfl,(Below.refl _ _).alloc (Nat.le_refl _) _⟩
theorem cmp_lt {a b:Nat} (h:a<b):cmpI (a:Int) (b:Int)<0:=by unfold cmpI;split <;> omega
theorem cmp_ge {a b:Nat} (h:b<=a):¬ cmpI (a:Int) (b:Int)<0:=by unfold cmpI;split <;> (try split) <;> omega
theorem cmp_eq {a b:Nat}:(cmpI (a:Int) (b:Int)==0)=(a==b):=by
 unfold cmpI
 rw[Bool.eq_iff_iff]
 split
 ·simp;omega
 ·split
  ·simp;omega
  ·simp;omega
theorem csIm_at {w:World} {a:Option Addr} {im:Ims} (h:Cs w a (encI (imI im))) {i:Nat} (hi:i<im.length):∃ b off,a=some ⟨b,off,none⟩/\b<w.heap.size/\∀ w',Below w.heap.size w w'->w'.cell? ⟨b,off+i*2,none⟩=some (.int .i64 (im[i].1:Int))/\w'.cell? ⟨b,off+i*2+1,none⟩=some (.string im[i].2):=by
 obtain⟨b,off,h0,h1,h2⟩:=csI_at h (by rw[imI_length];exact hi)
 refine⟨b,off,h0,h1,fun w' hb=>?_⟩
 have:=h2 w' hb
 simpa[imI] using this
set_option maxHeartbeats 1000000 in
theorem Search_im (w:World) (im:Ims) (hr:Rise im) (hl:im.length<=1000) {a:Option Addr} (cap:Nat) (hc:Cs w a (encI (imI im))) (id:Nat) :
  Calls Tryz.prog 174 #[.slice a im.length cap,.int .i64 (id:Int),.func (.func 175) #[] #[]] w fun e w'=>e=.returned (.tuple #[.int .i64 (pos im id:Nat),.bool (inn im id)])/\Below w.heap.size w w':=by
 have HF:Hid (∀ wx p t,Calls Tryz.prog 175 #[.agg #[.int .i64 ((p:Nat):Int),.string t],.int .i64 (id:Int)] wx fun e w'=>e=.returned (.int .i64 (cmpI (p:Int) (id:Int)))/\Below wx.heap.size wx w'):=fun wx p t=>find1_any wx p t id
 have eg:∀ args w,(callFunc 175 args).run Tryz.prog w=.ok (.enter 175 args) w:=fun args w=>by kernel_rfl
 have hx:=pos_le im id
 go_enter Tryz.func174,Tryz.ntmps174
 go_wp2
 go_loopw [9,10] (fun s5 s6 wr=>∃ (lo hi:Nat),s5=.int .i64 (lo:Int)/\s6=.int .i64 (hi:Int)/\lo<=pos im id/\pos im id<=hi/\hi<=im.length/\Below w.heap.size w wr) (fun s5 s6 _=>(intOf s6).toNat-(intOf s5).toNat)
 case atStart=>exact⟨0,im.length,rfl,rfl,Nat.zero_le _,hx,Nat.le_refl _,Below.refl _ _⟩
 case round =>
  obtain⟨lo,hi,rfl,rfl,hlo,hh,hin,hb⟩:=hrel
  by_cases hlt:lo<hi
  ·have hltI:(lo:Int)<(hi:Int):=by omega
   obtain⟨bk,off,rfl,hbk,hcell⟩:=csIm_at hc (i:=(lo+hi) / 2) (by omega)
   obtain⟨k0,k1⟩:=hcell _ hb
   have hm:(((lo+hi) / 2:Nat):Int)=((lo:Int)+(hi:Int)) / 2:=by omega
   have hml:(lo+hi) / 2<im.length:=by omega
   have C:=HF.out
   by_cases hp:(lo+hi) / 2<pos im id
   ·have hq:cmpI ((im[(lo+hi) / 2].1:Nat):Int) (id:Int)<0:=cmp_lt (pos_lt hp)
    generalize im[(lo+hi) / 2]=q at *
    have C1:Hid (∀ wx,Calls Tryz.prog 175 #[.agg #[.int .i64 (q.1:Int),.string q.2],.int .i64 (id:Int)] wx fun e w'=>e=.returned (.int .i64 (cmpI (q.1:Int) (id:Int)))/\Below wx.heap.size wx w'):=fun wx=>C wx q.1 q.2
    clear C HF
    generalize cmpI (q.1:Int) (id:Int)=c at *
    have HP:Hid _:=hp
    clear hp
    go_wp2_with (go_at_fn 175;refine(C1.out _).mono ?_;rintro e w2 ⟨rfl,b2⟩)
    go_roundw
    case rel =>
     have hq:(lo+hi) / 2<pos im id:=HP.out
     exact⟨(lo+hi) / 2+1,hi,by rw[← hm];rfl,rfl,by omega,hh,hin,thn hb b2⟩
    case measure=>simp[intOf];omega
   ·have hq:¬ cmpI ((im[(lo+hi) / 2].1:Nat):Int) (id:Int)<0:=cmp_ge (pos_ge hr hml (by omega))
    generalize im[(lo+hi) / 2]=q at *
    have C1:Hid (∀ wx,Calls Tryz.prog 175 #[.agg #[.int .i64 (q.1:Int),.string q.2],.int .i64 (id:Int)] wx fun e w'=>e=.returned (.int .i64 (cmpI (q.1:Int) (id:Int)))/\Below wx.heap.size wx w'):=fun wx=>C wx q.1 q.2
    clear C HF
    generalize cmpI (q.1:Int) (id:Int)=c at *
    have HP:Hid _:=hp
    clear hp
    go_wp2_with (go_at_fn 175;refine(C1.out _).mono ?_;rintro e w2 ⟨rfl,b2⟩)
    go_roundw
    case rel =>
     have hq:¬ (lo+hi) / 2<pos im id:=HP.out
     exact⟨lo,(lo+hi) / 2,rfl,by rw[← hm],hlo,by omega,by omega,thn hb b2⟩
    case measure=>simp[intOf];omega
  ·have e1:lo=pos im id:=by omega
   subst e1
   have hltI:¬ ((pos im id:Nat):Int)<(hi:Int):=by omega
   by_cases hp:pos im id<im.length
   ·have hpI:((pos im id:Nat):Int)<(im.length:Int):=by omega
    obtain⟨bk,off,rfl,hbk,hcell⟩:=csIm_at hc hp
    obtain⟨k0,k1⟩:=hcell _ hb
    have hi2:Hid (inn im id=((im[pos im id]).1==id)):=(by unfold inn;rw[List.getElem?_eq_getElem hp]:inn im id=((im[pos im id]).1==id))
    have C:=HF.out
    have hce:Hid ((cmpI ((im[pos im id].1:Nat):Int) (id:Int)==0)=(im[pos im id].1==id)):=cmp_eq
    generalize im[pos im id]=q at *
    have C1:Hid (∀ wx,Calls Tryz.prog 175 #[.agg #[.int .i64 (q.1:Int),.string q.2],.int .i64 (id:Int)] wx fun e w'=>e=.returned (.int .i64 (cmpI (q.1:Int) (id:Int)))/\Below wx.heap.size wx w'):=fun wx=>C wx q.1 q.2
    clear C HF hcell hc
    generalize cmpI (q.1:Int) (id:Int)=c at *
    go_wp2_with (go_at_fn 175;refine(C1.out _).mono ?_;rintro e w2 ⟨rfl,b2⟩)
    go_ret2
    exact⟨by rw[hi2.out,← hce.out];rfl,thn hb b2⟩
   ·have hpI:¬ ((pos im id:Nat):Int)<(im.length:Int):=by omega
    have hi2:Hid (inn im id=false):=(by unfold inn;rw[List.getElem?_eq_none (by omega)]:inn im id=false)
    go_wp2
    go_ret2
    exact⟨by rw[hi2.out];rfl,hb⟩
def buL (tb:Nat) (r:Int) (us:List UInt8) (v:Value):List Value:=.pointer (some ⟨tb,0,none⟩) ::(hdL r us++[v])
def buA (tb:Nat) (r:Int) (us:List UInt8) (v:Value):Array Value:=(buL tb r us v).toArray
structure Bm where
 rt:Nat
 us:List UInt8
 im:Ims
structure B0 (Wt:Nat->Prop) (v:Value) (w:World) (bb tb:Nat) (X:Ad) (k:Nat) (C:Cf) (st:Nat->Option Nat) (mk:Int) (wh:Nat->Option Nat) (b:Bm):Prop where
 tt:Tt Wt w tb X k C st mk wh
 blk:w.heap[bb]?=some (.cells (buA tb (b.rt:Int) b.us v) 78)
 row:w.ownsRow 0 45 2 v b.im.length (prs (encI (imI b.im)))
 nb:¬ Wt bb
 nr:∀ g,v.ownBlock=some g->¬ Wt g/\g≠bb
 ul:b.us.length=222
 so:Rise b.im
 il:b.im.length<=200
 ip:∀ p∈b.im,p.1<C.ps/\p.2.size=224
 rl:b.rt<65536
structure Bu (W:Nat->Prop) (w:World) (bb tb:Nat) (X:Ad) (k:Nat) (C:Cf) (st:Nat->Option Nat) (mk:Int) (wh:Nat->Option Nat) (b:Bm):Prop where
 ex:∃ Wt v,B0 Wt v w bb tb X k C st mk wh b/\∀ j,W j↔(Wt j∨j=bb∨v.ownBlock=some j)
def bv (C:Cf) (st:Nat->Option Nat) (im:Ims) (id:Nat):ByteArray:=if inn im id then(im.getD (pos im id) (0,eb)).2 else Vw C st id
theorem row_own_lt {w:World} {el:TypeId} {sz n:Nat} {v:Value} {xs:List Value} (h:w.ownsRow 0 el sz v n xs) {g:Nat} (e:v.ownBlock=some g):g<w.heap.size:=by
 rcases h.2 with⟨rfl,_⟩ |⟨b,cap,cur,rfl,_,hg,_⟩
 ·cases e
 ·simp[Value.ownBlock] at e
  subst e
  exact lt_of_some hg
theorem row_own_at {w w':World} {el:TypeId} {sz n:Nat} {v:Value} {xs:List Value} (h:w.ownsRow 0 el sz v n xs) (hb:∀ g,v.ownBlock=some g->w'.heap[g]?=w.heap[g]?):w'.ownsRow 0 el sz v n xs:=by
 refine⟨h.1,?_⟩
 rcases h.2 with h2 |⟨b,cap,cur,rfl,h1,hg,h3⟩
 ·exact Or.inl h2
 ·exact Or.inr ⟨b,cap,cur,rfl,h1,(hb b rfl).trans hg,h3⟩
theorem row_cs {w:World} {el:TypeId} {v:Value} {xs:List P2} (h:w.ownsRow 0 el 2 v xs.length (prs xs)):∃ a cap,v=.slice a xs.length cap/\Cs w a xs/\(a=none->cap=0)/\xs.length<=cap/\∀ ad,a=some ad->ad.spot=none/\v.ownBlock=some ad.block:=by
 rcases h.2 with⟨rfl,hn⟩ |⟨b,cap,cur,rfl,_,hg,h1,h2,h3,h4⟩
 ·have:xs=[]:=List.eq_nil_of_length_eq_zero hn
  subst this
  exact⟨none,0,rfl,Cs.nil _ _,fun _=>rfl,Nat.le_refl _,fun _ e=>by cases e⟩
 ·refine⟨_,cap,rfl,Row.cs (el:=el) (cap:=cap) (Or.inr ⟨b,cur,rfl,hg,h1,h2,by omega,h4⟩),(fun e=>by cases e),h1,(fun ad e=>by cases e;exact⟨rfl,rfl⟩)⟩
section
variable {W W' Wt:Nat->Prop}{w w':World}{bb tb:Nat}{v:Value}{X:Ad}{k k':Nat}{C:Cf}{st:Nat->Option Nat}{mk:Int}{wh:Nat->Option Nat}{b:Bm}
theorem B0.lt_ (h:B0 Wt v w bb tb X k C st mk wh b):bb<w.heap.size:=lt_of_some h.blk
theorem B0.cell (h:B0 Wt v w bb tb X k C st mk wh b) (i:Nat):w.cell? ⟨bb,i,none⟩=(buL tb (b.rt:Int) b.us v)[i]?:=by
 rw[cell_of_row w bb _ _ 78 (0,0) h.blk];simp[buA]
theorem B0.c0 (h:B0 Wt v w bb tb X k C st mk wh b):w.cell? ⟨bb,0,none⟩=some (.pointer (some ⟨tb,0,none⟩)):=by rw[h.cell];rfl
theorem B0.c1 (h:B0 Wt v w bb tb X k C st mk wh b):w.cell? ⟨bb,1,none⟩=some (.int .i64 (b.rt:Int)):=by rw[h.cell];rfl
theorem B0.cu (h:B0 Wt v w bb tb X k C st mk wh b) {j:Nat} (hj:j<222):w.cell? ⟨bb,1+1+j,none⟩=some (.int .u8 (Pg.g b.us j)):=by
 rw[h.cell,show 1+1+j=(j+1)+1 by omega]
 show(hdL (b.rt:Int) b.us++[v])[j+1]?=_
 rw[List.getElem?_append_left (by rw[hdL_length,h.ul];omega)]
 exact hdL_get _ _ _ (by rw[h.ul];exact hj)
theorem B0.ci (h:B0 Wt v w bb tb X k C st mk wh b):w.cell? ⟨bb,224,none⟩=some v:=by
 rw[h.cell]
 show(hdL (b.rt:Int) b.us++[v])[223]?=_
 rw[List.getElem?_append_right (by rw[hdL_length,h.ul];omega),hdL_length,h.ul]
 rfl
theorem B0.z (h:B0 Wt v w bb tb X k C st mk wh b) (i:Nat):w.frozen? ⟨bb,i,none⟩=false:=Joins.unfrozen_of_block h.blk i
theorem B0.below (h:B0 Wt v w bb tb X k C st mk wh b) (hb:Below w.heap.size w w'):B0 Wt v w' bb tb X k C st mk wh b:=⟨h.tt.below hb,(hb.block _ h.lt_).trans h.blk,row_own_at h.row (fun g e=>hb.block _ (row_own_lt h.row e)),h.nb,h.nr,h.ul,h.so,h.il,h.ip,h.rl⟩
theorem B0.fr {Wt':Nat->Prop} (h:B0 Wt v w bb tb X k C st mk wh b) (hp:Tt Wt' w' tb X k' C st mk wh) (hf:Fr Wt Wt' w w'):B0 Wt' v w' bb tb X k' C st mk wh b :=
 ⟨hp,hf.is h.blk h.nb,row_own_at h.row (fun g e=>hf.blk _ (row_own_lt h.row e) (h.nr g e).1),hf.not h.lt_ h.nb,fun g e=>⟨hf.not (row_own_lt h.row e) (h.nr g e).1,(h.nr g e).2⟩,h.ul,h.so,h.il,h.ip,h.rl⟩
theorem B0.wide {Wt':Nat->Prop} (h:B0 Wt v w bb tb X k C st mk wh b) (hW:∀ j,W j↔(Wt j∨j=bb∨v.ownBlock=some j)) (hf:Fr Wt Wt' w w'):Fr W (fun j=>Wt' j∨j=bb∨v.ownBlock=some j) w w' :=
 ⟨hf.os,hf.tape,hf.output,hf.size,fun j hj hn=>hf.blk j hj (fun e=>hn ((hW j).2 (Or.inl e))),fun j hj=>by
  rcases hj with e |e
  ·exact(hf.sub j e).imp (fun x=>(hW j).2 (Or.inl x)) id
  ·exact Or.inl ((hW j).2 (Or.inr e))⟩
theorem Bu.below (h:Bu W w bb tb X k C st mk wh b) (hb:Below w.heap.size w w'):Bu W w' bb tb X k C st mk wh b:=by
 obtain⟨Wt,v,h0,hW⟩:=h.ex;exact⟨Wt,v,h0.below hb,hW⟩
theorem Bu.mono (h:Bu W w bb tb X k C st mk wh b) (hk:k<=k'):Bu W w bb tb X k' C st mk wh b:=by
 obtain⟨Wt,v,h0,hW⟩:=h.ex;exact⟨Wt,v,⟨h0.tt.mono hk,h0.blk,h0.row,h0.nb,h0.nr,h0.ul,h0.so,h0.il,h0.ip,h0.rl⟩,hW⟩
theorem Bu.lt (h:Bu W w bb tb X k C st mk wh b) {j:Nat} (hj:W j):j<w.heap.size:=by
 obtain⟨Wt,v,h0,hW⟩:=h.ex
 rcases (hW j).1 hj with e |rfl |e
 ·exact h0.tt.lt e
 ·exact h0.lt_
 ·exact row_own_lt h0.row e
theorem Bu.p1 (h:Bu W w bb tb X k C st mk wh b):C.ps<=200:=by obtain⟨Wt,v,h0,hW⟩:=h.ex;exact h0.tt.p1
theorem Bu.ul (h:Bu W w bb tb X k C st mk wh b):b.us.length=222:=by obtain⟨Wt,v,h0,hW⟩:=h.ex;exact h0.ul
theorem Bu.so (h:Bu W w bb tb X k C st mk wh b):Rise b.im:=by obtain⟨Wt,v,h0,hW⟩:=h.ex;exact h0.so
theorem Bu.uses (h:Bu W w bb tb X k C st mk wh b) (id:Nat) (hid:id<C.ps):Calls Tryz.prog 53 #[.pointer (some ⟨bb,1,none⟩),.int .i64 (id:Int)] w fun e w'=>e=.returned (.bool (uses b.us id))/\w'=w:=by
 obtain⟨Wt,v,h0,hW⟩:=h.ex
 have:=h0.tt.p1
 exact uses_cell w bb 1 id b.us (by omega) (h0.cu (by omega))
theorem find_b0 (h0:B0 Wt v w bb tb X k C st mk wh b) (id:Nat):Calls Tryz.prog 114 #[.pointer (some ⟨bb,0,none⟩),.int .i64 (id:Int)] w fun e w'=>e=.returned (.tuple #[.int .i64 (pos b.im id:Nat),.bool (inn b.im id)])/\Below w.heap.size w w':=by
 have hrow:=h0.row
 have hlen:(encI (imI b.im)).length=b.im.length:=by rw[encI_length,imI_length]
 rw[← hlen] at hrow
 obtain⟨a,cap,e,hc,_⟩:=row_cs hrow
 rw[hlen] at e
 subst e
 have CS:Hid (Calls Tryz.prog 174 #[.slice a b.im.length cap,.int .i64 (id:Int),.func (.func 175) #[] #[]] w fun e w'=>e=.returned (.tuple #[.int .i64 (pos b.im id:Nat),.bool (inn b.im id)])/\Below w.heap.size w w'):=Search_im w b.im h0.so (by have:=h0.il;omega) cap hc id
 have ci:=h0.ci
 clear h0 hc hlen hrow
 generalize pos b.im id=x at *
 generalize inn b.im id=y at *
 go_enter Tryz.func114,Tryz.ntmps114
 go_wp2_with (go_at_call 174;refine CS.out.mono ?_;rintro e w1 ⟨rfl,b1⟩)
 go_ret2
 exact⟨rfl,b1⟩
theorem Bu.page (h:Bu W w bb tb X k C st mk wh b) (hk:k<=270000000000) (id:Nat) (hid:id<C.ps):Calls Tryz.prog 137 #[.pointer (some ⟨bb,0,none⟩),.int .i64 (id:Int)] w fun e w'=>e=.returned (.tuple #[.string (bv C st b.im id),.int .i64 0])/\∃ W',Bu W' w' bb tb X (k+8006) C st mk wh b/\Fr W W' w w':=by
 obtain⟨Wt,v,h0,hW⟩:=h.ex
 have CF:Hid (Calls Tryz.prog 114 #[.pointer (some ⟨bb,0,none⟩),.int .i64 (id:Int)] w fun e w'=>e=.returned (.tuple #[.int .i64 (pos b.im id:Nat),.bool (inn b.im id)])/\Below w.heap.size w w'):=find_b0 h0 id
 have H0:Hid (B0 Wt v w bb tb X k C st mk wh b):=h0
 have HW:Hid (∀ j,W j↔(Wt j∨j=bb∨v.ownBlock=some j)):=hW
 unfold bv
 cases hin:inn b.im id with
 | true =>
  have hp:pos b.im id<b.im.length:=by
   unfold inn at hin
   rcases Nat.lt_or_ge (pos b.im id) b.im.length with h1 |h1
   ·exact h1
   ·rw[List.getElem?_eq_none h1] at hin;cases hin
  have hrow:=h0.row
  have hlen:(encI (imI b.im)).length=b.im.length:=by rw[encI_length,imI_length]
  rw[← hlen] at hrow
  obtain⟨a,cap,e,hc,_⟩:=row_cs hrow
  rw[hlen] at e
  obtain⟨bk,off,rfl,hbk,hcell⟩:=csIm_at hc hp
  have HC:Hid (∀ w',Below w.heap.size w w'->w'.cell? ⟨bk,off+pos b.im id*2+1,none⟩=some (.string b.im[pos b.im id].2)/\w'.cell? ⟨bb,224,none⟩=some (.slice (some ⟨bk,off,none⟩) b.im.length cap)):=fun w' hb=>⟨(hcell w' hb).2,by rw[(h0.below hb).ci,e]⟩
  rw[hin] at CF
  have hpI:((pos b.im id:Nat):Int)<(b.im.length:Int):=by omega
  have hg:(b.im.getD (pos b.im id) (0,eb)).2=b.im[pos b.im id].2:=by simp[hp]
  rw[if_pos rfl,hg]
  have hl:=h0.il
  clear h0 hW h hc hcell hin hrow hlen hg
  generalize b.im[pos b.im id].2=t at *
  generalize pos b.im id=x at *
  generalize b.im.length=n at *
  go_enter Tryz.func137,Tryz.ntmps137
  go_wp2_with (go_at_call 114;refine CF.out.mono ?_;rintro e w1 ⟨rfl,b1⟩;obtain⟨k0,k1⟩:=HC.out _ b1)
  go_ret2
  exact⟨rfl,W,⟨Wt,v,⟨(H0.out.below b1).tt.mono (by omega),(H0.out.below b1).blk,(H0.out.below b1).row,H0.out.nb,H0.out.nr,H0.out.ul,H0.out.so,H0.out.il,H0.out.ip,H0.out.rl⟩,HW.out⟩,Fr.of_below b1 W⟩
 | false =>
  rw[hin] at CF
  rw[if_neg (by simp)]
  have HC:Hid (∀ w',Below w.heap.size w w'->w'.cell? ⟨bb,0,none⟩=some (.pointer (some ⟨tb,0,none⟩))):=fun w' hb=>(h0.below hb).c0
  have CP:Hid (∀ w',Below w.heap.size w w'->Calls Tryz.prog 59 #[.pointer (some ⟨tb,0,none⟩),.int .i64 (id:Int)] w' fun e w2=>e=.returned (.tuple #[.string (Vw C st id),.int .i64 0])/\∃ W',Tt W' w2 tb X (k+8006) C st mk wh/\Fr Wt W' w' w2):=fun w' hb=>(h0.below hb).tt.page (by omega) id hid
  clear h0 hW h hin
  generalize Vw C st id=t at *
  go_enter Tryz.func137,Tryz.ntmps137
  go_wp2_with (first
   | (go_at_call 114;refine CF.out.mono ?_;rintro e w1 ⟨rfl,b1⟩;have k0:=HC.out _ b1)
   | (go_at_call 59;refine(CP.out _ b1).mono ?_;rintro e w2 ⟨rfl,W2,t2,f2⟩))
  go_ret2
  have hb:=H0.out.below b1
  exact⟨rfl,_,⟨W2,v,hb.fr t2 f2,fun j=>Iff.rfl⟩,(Fr.of_below b1 W).trans (hb.wide HW.out f2)⟩
end
end Go.Proofs.YtpcnjncgilmehabGreat.Tr
