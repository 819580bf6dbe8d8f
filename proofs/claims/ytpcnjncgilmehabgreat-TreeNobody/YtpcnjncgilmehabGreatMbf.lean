import Derived.Test.YtpcnjncgilmehabGreatMbe
set_option linter.unusedVariables false
set_option linter.unusedSimpArgs false
set_option maxRecDepth 100000
namespace Go.Proofs.YtpcnjncgilmehabGreat.Tr
open Go.RowKit Go.Maps Go.ChangeMaps
theorem needs_take1 {L:List Cl} {i:Nat} (hi:i<L.length):Pg.needs (L.take i)+Pg.need L[i]<=Pg.needs L:=by
 rw[← Pg.needs_take_succ hi];exact Pg.needs_take_le L (i+1)
theorem firstBad_can {k l:Nat} {L:List Cl} (h:Pg.CanPack k l L):Pg.firstBad k L=0:=by
 refine Pg.firstBad_ok (fun j hj=>?_)
 have hm:L[j]∈L:=List.getElem_mem hj
 have hk:k≠0:=fun e=>by rw[h.free e] at hj;exact absurd hj (Nat.not_lt_zero _)
 rw[Pg.bad_get hj,if_neg (by simp only[Pg.long];have:=h.ks _ hm;have:=h.vs _ hm;(try split) <;> (try split) <;> (first |omega |simp)),if_neg hk,if_neg,if_neg]
 ·have:=needs_take1 hj
  have:=h.fit
  omega
 ·rintro⟨h0,e⟩
  rw[List.getElem?_eq_getElem (by omega:j-1<L.length)] at e
  have:=List.pairwise_iff_getElem.1 h.ris (j-1) j (by omega) hj (by omega)
  simp only[Option.getD_some] at e
  rw[this] at e
  cases e
theorem can_len {k l:Nat} {L:List Cl} (h:Pg.CanPack k l L):L.length<=220:=by
 have:∀ (l:List Cl),l.length<=Pg.needs l:=fun l=>by
  induction l with
  | nil=>simp
  | cons c l ih=>simp[Pg.needs,Pg.need] at *;omega
 have:=this L
 have:=h.fit
 omega
theorem pack_size {k l:Nat} {L:List Cl} (h:Pg.CanPack k l L):(Pg.tx (Pg.packS k l L)).size=224:=by
 rw[Pg.tx_size];exact(Pg.packed_all L h).right.head.len
section
variable {W W':Nat->Prop}{w w':World}{bb tb:Nat}{X:Ad}{k:Nat}{C:Cf}{st:Nat->Option Nat}{mk:Int}{wh:Nat->Option Nat}{b:Bm}
theorem Make_can (w:World) {kk l:Nat} {a:Option Addr} {L:List Cl} (cap:Nat) (hC:Pg.Cs w a L) (h:Pg.CanPack kk l L):Calls Tryz.prog 101 #[.int .i64 (kk:Int),.int .i64 (l:Int),.slice a L.length cap] w fun e w'=>e=.returned (.tuple #[.string (Pg.tx (Pg.packS kk l L)),.int .i64 0])/\Below w.heap.size w w':=by
 have:=Pg.Make_any w kk l cap hC h.hk h.hl h.kl (by have:=can_len h;omega)
 rw[firstBad_can h,if_pos rfl] at this
 exact this
set_option maxHeartbeats 1000000 in
theorem Bu.putCells (h:Bu W w bb tb X k C st mk wh b) (id kk l:Nat) (hid:id<C.ps) {a:Option Addr} {L:List Cl} (cap:Nat) (hC:Pg.Cs w a L) (hP:Pg.CanPack kk l L):Calls Tryz.prog 64 #[.pointer (some ⟨bb,0,none⟩),.int .i64 (id:Int),.int .i64 (kk:Int),.int .i64 (l:Int),.slice a L.length cap] w fun e w'=>e=.returned (.int .i64 0)/\∃ W',Bu W' w' bb tb X k C st mk wh {b with im:=putI b.im id (Pg.tx (Pg.packS kk l L))}/\Fr W W' w w':=by
 have CM:Hid (Calls Tryz.prog 101 #[.int .i64 (kk:Int),.int .i64 (l:Int),.slice a L.length cap] w fun e w'=>e=.returned (.tuple #[.string (Pg.tx (Pg.packS kk l L)),.int .i64 0])/\Below w.heap.size w w'):=Make_can w cap hC hP
 have CP:Hid (∀ wx,Below w.heap.size w wx->Calls Tryz.prog 72 #[.pointer (some ⟨bb,0,none⟩),.int .i64 (id:Int),.string (Pg.tx (Pg.packS kk l L))] wx fun e w'=>e=.returned (.tuple #[])/\∃ W',Bu W' w' bb tb X k C st mk wh {b with im:=putI b.im id (Pg.tx (Pg.packS kk l L))}/\Fr W W' w w'):=fun wx hb=>by
  refine((h.below hb).put id _ hid (pack_size hP)).mono ?_
  rintro e w' ⟨rfl,W',q1,q2⟩
  exact⟨rfl,W',q1,(Fr.of_below hb W).trans q2⟩
 clear h hC hP
 generalize Pg.tx (Pg.packS kk l L)=t at *
 generalize L.length=n at *
 go_enter Tryz.func64,Tryz.ntmps64
 go_wp2_with (first
  | (go_at_call 101;refine CM.out.mono ?_;rintro e w1 ⟨rfl,b1⟩)
  | (go_at_call 72;refine(CP.out _ b1).mono ?_;rintro e w2 ⟨rfl,k4⟩;have K4:Hid _:=k4;clear k4))
 go_ret
 exact⟨rfl,K4.out⟩
theorem can_nil (kk:Nat) (h:kk<=2):Pg.CanPack kk 0 []:=⟨h,by omega,Or.inr rfl,fun _=>rfl,(fun _ h=>by cases h),(fun _ h=>by cases h),List.Pairwise.nil,by simp[Pg.needs]⟩
def blk (kk:Nat):ByteArray:=Pg.tx (Pg.packS kk 0 [])
end
structure ImAt (w:World) (b:Nat) (p:Int) (t:ByteArray):Prop where
 blk:w.heap[b]?=some (.cells #[.int .i64 p,.string t] 45)
theorem ImAt.c0 {w:World} {b:Nat} {p:Int} {t:ByteArray} (h:ImAt w b p t):w.cell? ⟨b,0,none⟩=some (.int .i64 p):=Joins.cell_of_block h.blk 0
theorem ImAt.c1 {w:World} {b:Nat} {p:Int} {t:ByteArray} (h:ImAt w b p t):w.cell? ⟨b,1,none⟩=some (.string t):=Joins.cell_of_block h.blk 1
theorem ImAt.f {w:World} {b:Nat} {p:Int} {t:ByteArray} (h:ImAt w b p t) (i:Nat):w.frozen? ⟨b,i,none⟩=false:=Joins.unfrozen_of_block h.blk i
theorem zero_im (w:World):(zeroValue 45).run Tryz.prog w=.ok zI w:=by kernel_rfl
section
variable {ops:Array Oper}{rest:List Oper}{o:Oper}{a:Act}{Q:Exit->Act->World->Prop}
theorem wpList_new_im (w:World) (hg:o.guard=none) (hop:o.op=Op.alloc 45)
  (h:∀ w' b,ImAt w' b 0 eb->Below w.heap.size w w'->w.heap.size<=b->wpList Tryz.prog ops Q rest (a.put o.dst (.pointer (some ⟨b,0,none⟩))) w'):wpList Tryz.prog ops Q (o ::rest) a w:=by
 refine wpList_plain hg fun K' hK'=>?_
 unfold Oper.wp
 simp[execOp,hop,Instr.alloc,zero_im,Result.andThen,Value.cells,zI]
 exact hK' _ _ (h _ _ ⟨(MapKept.heap_alloc w _).1⟩ ((Below.refl _ _).alloc (Nat.le_refl _) _) (Nat.le_refl _))
theorem wpList_put_im {b:Nat} {p0 p:Int} {t0 t:ByteArray} (w:World) (hg:o.guard=none) (x y:Operand) (hop:o.op=Op.store 45 x y)
  (hx:a.eval x=.pointer (some ⟨b,0,none⟩)) (hy:a.eval y=.agg #[.int .i64 p,.string t]) (hs:ImAt w b p0 t0)
  (h:∀ w',ImAt w' b p t->Pk.Off b w w'->wpList Tryz.prog ops Q rest (a.put o.dst undef) w'):wpList Tryz.prog ops Q (o ::rest) a w:=by
 refine wpList_store_mid hg 45 x y hop b 0 #[.int .i64 p,.string t] hx hy ?_ size_im (by simp[Value.oneCell']) ?_
 ·intro j hj
  refine⟨?_,hs.f _⟩
  rw[cell_of_row w b _ _ 45 (0,0) hs.blk]
  have:j<2:=hj
  have:j=0∨j=1:=by omega
  rcases this with rfl |rfl <;> rfl
 ·refine h _ ⟨?_⟩ (((Pk.Off.refl b w).setCell 0 _).setCell 1 _)
  exact Joins.block_setCell (Joins.block_setCell hs.blk _) _
end
def pnO (l:Ims):Nat->Nat:=fun d=>if d∈l.map (·.1) then 1 else 0
theorem pnO_nil:pnO []=fun _=>0:=rfl
theorem pnO_cons {q:Nat × ByteArray} {l:Ims} (hr:Rise (q ::l)):pnO (q ::l) q.1=1/\upd (pnO (q ::l)) q.1 (pnO (q ::l) q.1-1)=pnO l:=by
 have h1:pnO (q ::l) q.1=1:=by simp[pnO]
 refine⟨h1,?_⟩
 rw[h1]
 funext d
 unfold upd pnO
 have hn:q.1 ∉ l.map (·.1):=fun hm=>by
  obtain⟨x,hx,e⟩:=List.mem_map.1 hm
  have:=(List.pairwise_cons.1 hr).1 x hx
  omega
 by_cases e:d=q.1
 ·subst e;rw[if_pos rfl,if_neg hn]
 ·rw[if_neg e]
  simp only[List.map_cons,List.mem_cons,e,false_or]
theorem pnO_snoc {q:Nat × ByteArray} {l:Ims} (hr:Rise (l++[q])):upd (pnO l) q.1 (pnO l q.1+1)=pnO (l++[q]):=by
 have hn:q.1 ∉ l.map (·.1):=fun hm=>by
  obtain⟨x,hx,e⟩:=List.mem_map.1 hm
  have:=(List.pairwise_append.1 hr).2.2 x hx q (by simp)
  omega
 funext d
 unfold upd pnO
 by_cases e:d=q.1
 ·subst e;rw[if_pos rfl,if_neg hn,if_pos (by simp)]
 ·rw[if_neg e]
  simp only[List.map_append,List.map_cons,List.map_nil,List.mem_append,List.mem_singleton,e,or_false]
theorem pnO_le (l:Ims) (d:Nat):pnO l d<=1:=by unfold pnO;split <;> omega
structure ImV (W:Nat->Prop) (w:World) (v:Value) (im:Ims):Prop where
 ex:∃ a cap,v=.slice a im.length cap/\Cs w a (encI (imI im))/\(a=none->cap=0)/\im.length<=cap/\∀ ad,a=some ad->ad.spot=none/\¬ W ad.block/\ad.block<w.heap.size
section
variable {W W':Nat->Prop}{w w':World}{v:Value}{X:Ad}{k:Nat}{C:Cf}{st:Nat->Option Nat}{pn:Nat->Nat}{b:Bm}{im:Ims}
theorem cs_blk {a:Option Addr} {xs:List P2} (h:Cs w a xs) (hb:∀ ad,a=some ad->w'.heap[ad.block]?=w.heap[ad.block]?) (hs:w.heap.size<=w'.heap.size):Cs w' a xs:=by
 refine⟨fun i hi=>?_⟩
 obtain⟨b,off,e,h1,q1,q2⟩:=h.at_ i hi
 have hh:w'.heap[b]?=w.heap[b]?:=hb _ e
 exact⟨b,off,e,Nat.lt_of_lt_of_le h1 hs,(World.cell?_of_block (a:=⟨b,off+i*2,none⟩) hh).trans q1,(World.cell?_of_block (a:=⟨b,off+i*2+1,none⟩) hh).trans q2⟩
theorem ImV.fr (h:ImV W w v im) (hf:Fr W W' w w'):ImV W' w' v im:=by
 obtain⟨a,cap,h1,h2,h3,h4,h5⟩:=h.ex
 exact⟨a,cap,h1,cs_blk h2 (fun ad e=>hf.blk _ (h5 ad e).2.2 (h5 ad e).2.1) hf.size,h3,h4,fun ad e=>⟨(h5 ad e).1,hf.not (h5 ad e).2.2 (h5 ad e).2.1,Nat.lt_of_lt_of_le (h5 ad e).2.2 hf.size⟩⟩
theorem Pe.fr_off {c:Nat} (h:Pe W w X k C st pn) (ho:Pk.Off c w w') (hc:¬ W c):Pe W w' X k C st pn:=h.turn (fun j hj=>ho.block j (h.lt hj) (fun e=>by subst e;exact hc hj)) ho.size
set_option maxHeartbeats 1000000 in
theorem release_pe (h:Pe W w X k C st (pnO im)) (hv:ImV W w v im) (hr:Rise im) (hl:im.length<=200) (hp:∀ p∈im,p.1<C.ps):Calls Tryz.prog 66 #[.pointer (some ⟨X.pb,0,none⟩),v] w fun e w'=>e=.returned (.tuple #[])/\∃ W',Pe W' w' X k C st (fun _=>0)/\Fr W W' w w':=by
 have CU:Hid (∀ (i:Nat) (hi:i<im.length) wx Wx,Pe Wx wx X k C st (pnO (im.drop i))->Calls Tryz.prog 104 #[.pointer (some ⟨X.pb,0,none⟩),.int .i64 (im[i].1:Int)] wx fun e w'=>e=.returned (.int .i64 0)/\∃ W',Pe W' w' X k C st (pnO (im.drop (i+1)))/\Fr Wx W' wx w'):=fun i hi wx Wx hx=>by
  have e1:im.drop i=im[i] ::im.drop (i+1):=List.drop_eq_getElem_cons hi
  have hr1:Rise (im[i] ::im.drop (i+1)):=by rw[← e1];exact List.Pairwise.sublist (List.drop_sublist i im) hr
  obtain⟨q1,q2⟩:=pnO_cons hr1
  rw[e1] at hx
  refine(hx.unpin im[i].1 (hp _ (List.getElem_mem hi)) (by rw[q1];omega) (by rw[q1];omega)).mono ?_
  rintro e w' ⟨rfl,W',p1,f1⟩
  rw[q2] at p1
  exact⟨rfl,W',p1,f1⟩
 obtain⟨a,cap,rfl,hcs,hnil,hcap,hblk⟩:=hv.ex
 have HV:Hid (ImV W w (.slice a im.length cap) im):=hv
 have H0:Hid (Pe W w X k C st (pnO im)):=h
 have HR:Hid (∀ (i:Nat) (hi:i<im.length) wx Wx,Fr W Wx w wx->∃ bk off,a=some ⟨bk,off,none⟩/\wx.cell? ⟨bk,off+i*2,none⟩=some (.int .i64 (im[i].1:Int))/\wx.cell? ⟨bk,off+i*2+1,none⟩=some (.string im[i].2)):=fun i hi wx Wx hf=>by
  obtain⟨a2,cap2,e2,hc2,_⟩:=(hv.fr hf).ex
  injection e2 with e3 e4 e5
  subst e3
  obtain⟨bk,off,e,hlt,hcell⟩:=csIm_at hc2 hi
  exact⟨bk,off,e,hcell wx (Below.refl _ _)⟩
 clear h hcs hnil hblk hv
 go_enter Tryz.func66,Tryz.ntmps66
 go_wp2
 go_loopw [8] (fun s wr=>∃ i:Nat,s=.int .i64 (i:Int)/\i<=im.length/\∃ W',Pe W' wr X k C st (pnO (im.drop i))/\Fr W W' w wr) (fun s _=>im.length-(intOf s).toNat)
 case atStart=>exact⟨0,rfl,Nat.zero_le _,W,H0.out,Fr.refl W w⟩
 case round =>
  obtain⟨i,rfl,hi,W1,p1,f1⟩:=hrel
  by_cases hlt:i<im.length
  ·have hltI:(i:Int)<(im.length:Int):=by omega
   obtain⟨bk,off,rfl,c0,c1⟩:=HR.out i hlt _ _ f1
   have C1:Hid (∀ wx Wx,Pe Wx wx X k C st (pnO (im.drop i))->Calls Tryz.prog 104 #[.pointer (some ⟨X.pb,0,none⟩),.int .i64 (im[i].1:Int)] wx fun e w'=>e=.returned (.int .i64 0)/\∃ W',Pe W' w' X k C st (pnO (im.drop (i+1)))/\Fr Wx W' wx w'):=CU.out i hlt
   have P1:Hid _:=p1
   have F1:Hid _:=f1
   clear p1 f1 CU HR
   generalize im[i]=q at *
   go_wp2_with (first
    | (refine wpList_new_im _ rfl rfl ?_;intro w2 b2 i2 l2 g2)
    | (refine wpList_put_im _ rfl _ _ rfl rfl rfl i2 ?_;intro w3 i3 o3;have k0:=i3.c0;have k1:=i3.c1)
    | (go_at_call 104;refine(C1.out _ W1 ?_).mono ?_;exact(P1.out.below l2).fr_off o3 (fun e=>absurd (P1.out.lt e) (by omega));rintro e w4 ⟨rfl,W4,p4,f4⟩;have P4:Hid _:=p4;have F4:Hid _:=f4;clear p4 f4))
   go_roundw
   case rel=>exact⟨i+1,rfl,by omega,W4,P4.out,F1.out.trans (((Fr.of_below l2 W1).off o3 g2).trans F4.out)⟩
   case measure=>simp[intOf];omega
  ·have e1:i=im.length:=by omega
   subst e1
   have hltI:¬ ((im.length:Nat):Int)<(im.length:Int):=by omega
   have P1:Hid _:=p1
   have F1:Hid _:=f1
   clear p1 f1 CU HR
   go_wp2
   go_end0
   have p:=P1.out
   rw[List.drop_length,pnO_nil] at p
   exact⟨rfl,W1,p,F1.out⟩
end
section
variable {W W':Nat->Prop}{w w':World}{v v':Value}{X:Ad}{k:Nat}{C:Cf}{st:Nat->Option Nat}{b:Bm}{im:Ims}{a:Option Addr}{cap:Nat}
theorem ImV.cells (h:ImV W w (.slice a im.length cap) im) (hf:Fr W W' w w') {i:Nat} (hi:i<im.length):∃ bk off,a=some ⟨bk,off,none⟩/\w'.cell? ⟨bk,off+i*2,none⟩=some (.int .i64 (im[i].1:Int))/\w'.cell? ⟨bk,off+i*2+1,none⟩=some (.string im[i].2):=by
 obtain⟨a2,cap2,e2,hc2,_⟩:=(h.fr hf).ex
 injection e2 with e3 e4 e5
 subst e3
 obtain⟨bk,off,e,hlt,hcell⟩:=csIm_at hc2 hi
 exact⟨bk,off,e,hcell w' (Below.refl _ _)⟩
set_option maxHeartbeats 1000000 in
theorem ask_pe (h:Pe W w X k C st (fun _=>0)) (hk:k<=280000000000) (hv:ImV W w v im) (hl:im.length<=200) (hp:∀ p∈im,p.1<C.ps):Calls Tryz.prog 103 #[.pointer (some ⟨X.pb,0,none⟩),v] w fun e w'=>e=.returned (.int .i64 0)/\∃ W',Pe W' w' X (k+im.length*8006) C st (fun _=>0)/\Fr W W' w w':=by
 have CU:Hid (∀ (i:Nat) (hi:i<im.length) wx Wx,Pe Wx wx X (k+i*8006) C st (fun _=>0)->Calls Tryz.prog 100 #[.pointer (some ⟨X.pb,0,none⟩),.int .i64 (im[i].1:Int)] wx fun e w'=>∃ (s:ByteArray) (r:Int),e=.returned (.tuple #[.string s,.int .i64 r,.int .i64 0])/\∃ W',Pe W' w' X (k+(i+1)*8006) C st (fun _=>0)/\Fr Wx W' wx w'):=fun i hi wx Wx hx=>by
  refine(hx.get (by omega) (fun _=>rfl) im[i].1 (hp _ (List.getElem_mem hi))).mono ?_
  rintro e w' ⟨rfl,W',p1,f1⟩
  refine⟨_,_,rfl,W',?_,f1⟩
  rw[show k+(i+1)*8006=k+i*8006+8006 by omega]
  exact p1
 obtain⟨a,cap,rfl,_⟩:=hv.ex
 have HR:Hid (∀ (i:Nat) (hi:i<im.length) wx Wx,Fr W Wx w wx->∃ bk off,a=some ⟨bk,off,none⟩/\wx.cell? ⟨bk,off+i*2,none⟩=some (.int .i64 (im[i].1:Int))/\wx.cell? ⟨bk,off+i*2+1,none⟩=some (.string im[i].2)):=fun i hi wx Wx hf=>hv.cells hf hi
 have H0:Hid (Pe W w X k C st (fun _=>0)):=h
 clear h hv
 go_enter Tryz.func103,Tryz.ntmps103
 go_wp2
 go_loopw [12] (fun s wr=>∃ i:Nat,s=.int .i64 (i:Int)/\i<=im.length/\∃ W',Pe W' wr X (k+i*8006) C st (fun _=>0)/\Fr W W' w wr) (fun s _=>im.length-(intOf s).toNat)
 case atStart=>exact⟨0,rfl,Nat.zero_le _,W,H0.out,Fr.refl W w⟩
 case round =>
  obtain⟨i,rfl,hi,W1,p1,f1⟩:=hrel
  by_cases hlt:i<im.length
  ·have hltI:(i:Int)<(im.length:Int):=by omega
   obtain⟨bk,off,rfl,c0,c1⟩:=HR.out i hlt _ _ f1
   have C1:Hid (∀ wx Wx,Pe Wx wx X (k+i*8006) C st (fun _=>0)->Calls Tryz.prog 100 #[.pointer (some ⟨X.pb,0,none⟩),.int .i64 (im[i].1:Int)] wx fun e w'=>∃ (s:ByteArray) (r:Int),e=.returned (.tuple #[.string s,.int .i64 r,.int .i64 0])/\∃ W',Pe W' w' X (k+(i+1)*8006) C st (fun _=>0)/\Fr Wx W' wx w'):=CU.out i hlt
   have P1:Hid _:=p1
   have F1:Hid _:=f1
   clear p1 f1 CU HR
   generalize im[i]=q at *
   go_wp2_with (first
    | (refine wpList_new_im _ rfl rfl ?_;intro w2 b2 i2 l2 g2)
    | (refine wpList_put_im _ rfl _ _ rfl rfl rfl i2 ?_;intro w3 i3 o3;have k0:=i3.c0;have k1:=i3.c1)
    | (go_at_call 100;refine(C1.out _ W1 ?_).mono ?_;exact(P1.out.below l2).fr_off o3 (fun e=>absurd (P1.out.lt e) (by omega));rintro e w4 ⟨s4,r4,rfl,W4,p4,f4⟩;have P4:Hid _:=p4;have F4:Hid _:=f4;clear p4 f4))
   go_roundw
   case rel=>exact⟨i+1,rfl,by omega,W4,P4.out,F1.out.trans (((Fr.of_below l2 W1).off o3 g2).trans F4.out)⟩
   case measure=>simp[intOf];omega
  ·have e1:i=im.length:=by omega
   subst e1
   have hltI:¬ ((im.length:Nat):Int)<(im.length:Int):=by omega
   have P1:Hid _:=p1
   have F1:Hid _:=f1
   clear p1 f1 CU HR
   go_wp2
   go_ret
   exact⟨rfl,W1,P1.out,F1.out⟩
theorem ImV.take (h:ImV W w (.slice a im.length cap) im) {i:Nat} (hi:i<=im.length):ImV W w (.slice a i cap) (im.take i):=by
 obtain⟨a2,cap2,e2,h2,h3,h4,h5⟩:=h.ex
 injection e2 with e3 e4 e5
 subst e3 e5
 refine⟨a,cap,by rw[List.length_take,Nat.min_eq_left hi],⟨fun j hj=>?_⟩,h3,by rw[List.length_take];omega,h5⟩
 rw[encI_length,imI_length,List.length_take] at hj
 obtain⟨b,off,e,q0,q1,q2⟩:=h2.at_ j (by rw[encI_length,imI_length];omega)
 refine⟨b,off,e,q0,?_,?_⟩
 ·rw[q1];simp[encI,imI]
 ·rw[q2];simp[encI,imI]
set_option maxHeartbeats 2000000 in
theorem hold_pe (h:Pe W w X k C st (fun _=>0)) (hk:k<=270000000000) (hv:ImV W w v im) (hr:Rise im) (hl:im.length<=200) (hp:∀ p∈im,p.1<C.ps):Calls Tryz.prog 65 #[.pointer (some ⟨X.pb,0,none⟩),v] w fun e w'=>∃ v',e=.returned (.tuple #[v',.int .i64 0])/\∃ W' im',(im'=im/\v'=v∨im'=[]/\v'=.slice none 0 0)/\Pe W' w' X (k+401*8006) C st (pnO im')/\Fr W W' w w':=by
 have CU:Hid (∀ (i:Nat) (hi:i<im.length) wx Wx,Pe Wx wx X (k+i*8006) C st (pnO (im.take i))->Calls Tryz.prog 102 #[.pointer (some ⟨X.pb,0,none⟩),.int .i64 (im[i].1:Int)] wx fun e w'=>∃ y,e=.returned (.int .i64 y)/\((y=0/\∃ W',Pe W' w' X (k+(i+1)*8006) C st (pnO (im.take (i+1)))/\Fr Wx W' wx w')∨(y=7/\∃ W',Pe W' w' X (k+(i+1)*8006) C st (pnO (im.take i))/\Fr Wx W' wx w'))):=fun i hi wx Wx hx=>by
  have e1:im.take (i+1)=im.take i++[im[i]]:=(List.take_append_getElem hi).symm
  have hr1:Rise (im.take i++[im[i]]):=by rw[← e1];exact List.Pairwise.sublist (List.take_sublist _ im) hr
  have q2:=pnO_snoc hr1
  refine(hx.pin (by omega) (fun d=>by have:=pnO_le (im.take i) d;omega) im[i].1 (hp _ (List.getElem_mem hi))).mono ?_
  rintro e w' ⟨y,rfl,hy⟩
  rw[show k+(i+1)*8006=k+i*8006+8006 by omega,e1,← q2]
  exact⟨y,rfl,hy⟩
 obtain⟨a,cap,rfl,_,_,hcap,_⟩:=hv.ex
 have HR:Hid (∀ (i:Nat) (hi:i<im.length) wx Wx,Fr W Wx w wx->∃ bk off,a=some ⟨bk,off,none⟩/\wx.cell? ⟨bk,off+i*2,none⟩=some (.int .i64 (im[i].1:Int))/\wx.cell? ⟨bk,off+i*2+1,none⟩=some (.string im[i].2)):=fun i hi wx Wx hf=>hv.cells hf hi
 have CR:Hid (∀ (i:Nat) (hi:i<=im.length) wx Wx (f:Fr W Wx w wx) (k1:Nat),Pe Wx wx X k1 C st (pnO (im.take i))->Calls Tryz.prog 66 #[.pointer (some ⟨X.pb,0,none⟩),.slice a i cap] wx fun e w'=>e=.returned (.tuple #[])/\∃ W',Pe W' w' X k1 C st (fun _=>0)/\Fr W W' w w'):=fun i hi wx Wx f k1 hx=>by
  refine(release_pe hx ((hv.fr f).take hi) (List.Pairwise.sublist (List.take_sublist _ im) hr) (by rw[List.length_take];omega) (fun p hm=>hp p (List.mem_of_mem_take hm))).mono ?_
  rintro e w' ⟨rfl,W',p1,f1⟩
  exact⟨rfl,W',p1,f.trans f1⟩
 have CA:Hid (∀ wx Wx (f:Fr W Wx w wx) (k1:Nat),k1<=k+201*8006->Pe Wx wx X k1 C st (fun _=>0)->Calls Tryz.prog 103 #[.pointer (some ⟨X.pb,0,none⟩),.slice a im.length cap] wx fun e w'=>e=.returned (.int .i64 0)/\∃ W',Pe W' w' X (k+401*8006) C st (fun _=>0)/\Fr W W' w w'):=fun wx Wx f k1 hk1 hx=>by
  refine(ask_pe hx (by omega) (hv.fr f) hl hp).mono ?_
  rintro e w' ⟨rfl,W',p1,f1⟩
  exact⟨rfl,W',p1.mono (by omega),f.trans f1⟩
 have H0:Hid (Pe W w X k C st (fun _=>0)):=h
 clear h hv hr
 go_enter Tryz.func65,Tryz.ntmps65
 go_wp2
 go_loopw [11] (fun s wr=>∃ i:Nat,s=.int .i64 (i:Int)/\i<=im.length/\∃ W',Pe W' wr X (k+i*8006) C st (pnO (im.take i))/\Fr W W' w wr) (fun s _=>im.length-(intOf s).toNat)
 case atStart=>exact⟨0,rfl,Nat.zero_le _,W,H0.out,Fr.refl W w⟩
 case round =>
  obtain⟨i,rfl,hi,W1,p1,f1⟩:=hrel
  by_cases hlt:i<im.length
  ·have hltI:(i:Int)<(im.length:Int):=by omega
   obtain⟨bk,off,rfl,c0,c1⟩:=HR.out i hlt _ _ f1
   have hcI:(i:Int)<=(cap:Int):=by omega
   have C1:Hid (∀ wx Wx,Pe Wx wx X (k+i*8006) C st (pnO (im.take i))->Calls Tryz.prog 102 #[.pointer (some ⟨X.pb,0,none⟩),.int .i64 (im[i].1:Int)] wx fun e w'=>∃ y,e=.returned (.int .i64 y)/\((y=0/\∃ W',Pe W' w' X (k+(i+1)*8006) C st (pnO (im.take (i+1)))/\Fr Wx W' wx w')∨(y=7/\∃ W',Pe W' w' X (k+(i+1)*8006) C st (pnO (im.take i))/\Fr Wx W' wx w'))):=CU.out i hlt
   have P1:Hid _:=p1
   have F1:Hid _:=f1
   clear p1 f1 CU HR
   have HL:Hid (im.length<=200):=hl
   generalize im[i]=q at *
   go_wp2_with (first
    | (refine wpList_new_im _ rfl rfl ?_;intro w2 b2 i2 l2 g2)
    | (refine wpList_put_im _ rfl _ _ rfl rfl rfl i2 ?_;intro w3 i3 o3;have k0:=i3.c0;have k1:=i3.c1)
    | (go_at_call 102;refine(C1.out _ W1 ?_).mono ?_;exact(P1.out.below l2).fr_off o3 (fun e=>absurd (P1.out.lt e) (by omega));rintro e w4 ⟨y,rfl,hy⟩;have F3:Hid _:=F1.out.trans ((Fr.of_below l2 W1).off o3 g2);rcases hy with⟨rfl,W4,p4,f4⟩ | ⟨rfl,W4,p4,f4⟩ <;> (have P4:Hid _:=p4;have F4:Hid _:=F3.out.trans f4;clear p4 f4))
    | (go_at_call 66;refine(CR.out i (Nat.le_of_lt hlt) _ W4 F4.out _ P4.out).mono ?_;rintro e w5 ⟨rfl,W5,p5,f5⟩;have P5:Hid _:=p5;have F5:Hid _:=f5;clear p5 f5)
    | (go_at_call 103;refine(CA.out _ W5 F5.out _ ?_ P5.out).mono ?_;(have:=HL.out;omega);rintro e w6 ⟨rfl,W6,p6,f6⟩;have P6:Hid _:=p6;have F6:Hid _:=f6;clear p6 f6))
   ·go_roundw
    case rel=>exact⟨i+1,rfl,by omega,W4,P4.out,F4.out⟩
    case measure=>simp[intOf];omega
   ·go_ret2
    exact⟨_,rfl,W6,[],Or.inr ⟨rfl,rfl⟩,P6.out,F6.out⟩
  ·have e1:i=im.length:=by omega
   subst e1
   have hltI:¬ ((im.length:Nat):Int)<(im.length:Int):=by omega
   have P1:Hid _:=p1
   have F1:Hid _:=f1
   clear p1 f1 CU HR CR CA
   go_wp2
   go_ret2
   have p:=P1.out
   rw[List.take_length] at p
   exact⟨_,rfl,W1,im,Or.inl ⟨rfl,rfl⟩,p.mono (by omega),F1.out⟩
end
section
variable {W W0:Nat->Prop}{w w':World}{tb mb m:Nat}{la la':Value}{X:Ad}{k:Nat}{C:Cf}{st:Nat->Option Nat}{pn:Nat->Nat}{mk mk':Int}{wh:Nat->Option Nat}
theorem T0.own (h:T0 W0 mb m la w tb X k C st pn mk wh) (hb:w'.heap[tb]?=some (.cells (ttA X mk' mb la') 53)) (ho:Pk.Off tb w w'):T0 W0 mb m la' w' tb X k C st pn mk' wh :=
 ⟨h.pe.fr_off ho h.nt,hb,h.map.of_block (ho.block mb h.map.lt (fun e=>h.ne e.symm)),h.nt,h.nm,h.ne,h.m1,h.p1⟩
theorem Tt.own (h:Tt W w tb X k C st mk wh) (hb:∀ mb,w.heap[tb]?=some (.cells (ttA X mk mb (.slice none 0 0)) 53)->w'.heap[tb]?=some (.cells (ttA X mk' mb (.slice none 0 0)) 53)) (ho:Pk.Off tb w w'):Tt W w' tb X k C st mk' wh/\Fr W W w w':=by
 obtain⟨W0,mb,m,h0,hW⟩:=h.ex
 refine⟨⟨W0,mb,m,h0.own (hb mb h0.blk) ho,hW⟩,⟨ho.os,ho.tape,ho.output,ho.size,fun j hj hn=>ho.block j hj (fun e=>hn ((hW j).2 (Or.inr (Or.inl e)))),fun j hj=>Or.inl hj⟩⟩
set_option maxHeartbeats 1000000 in
theorem Tt.settle0 (h:Tt W w tb X k C st mk wh):Calls Tryz.prog 41 #[.pointer (some ⟨tb,0,none⟩)] w fun e w'=>e=.returned (.int .i64 0)/\Tt W w' tb X k C st mk wh/\Fr W W w w':=by
 have H:Hid (Tt W (w.setCell ⟨tb,4,none⟩ (.slice none 0 0)) tb X k C st mk wh/\Fr W W w (w.setCell ⟨tb,4,none⟩ (.slice none 0 0))):=h.own (fun mb hb=>Joins.block_setCell hb _) ((Pk.Off.refl tb w).setCell 4 _)
 obtain⟨W0,mb,m,h0,hW⟩:=h.ex
 have c4:w.cell? ⟨tb,4,none⟩=some (.slice none 0 0):=Joins.cell_of_block h0.blk 4
 have z4:w.frozen? ⟨tb,4,none⟩=false:=Joins.unfrozen_of_block h0.blk 4
 clear h h0 hW
 go_enter Tryz.func41,Tryz.ntmps41
 go_wp2
 go_loopw [2] (fun s wr=>s=.int .i64 0/\wr=w) (fun _ _=>0)
 case atStart=>exact⟨rfl,rfl⟩
 case round =>
  obtain⟨rfl,rfl⟩:=hrel
  go_wp2
  go_ret
  exact⟨rfl,H.out⟩
end
theorem ne_of_size {t:ByteArray} (h:t.size≠0):t.toList.isEmpty=false:=by
 have hne:¬ t.toList=[]:=fun e=>by
  have:=Lib.toList_data t
  rw[e] at this
  have h3:t.size=0:=by
   show t.data.size=0
   rw[← Array.length_toList,← this];rfl
  omega
 simpa using hne
section
variable {W W':Nat->Prop}{w w':World}{tb:Nat}{X:Ad}{k:Nat}{C:Cf}{st:Nat->Option Nat}{mk:Int}{wh:Nat->Option Nat}
set_option maxHeartbeats 1000000 in
theorem Tt.known (h:Tt W w tb X k C st mk wh) (hk:k<=280000000000) (id:Nat) (hid:id<C.ps) (hne:(Vw C st id).size≠0):Calls Tryz.prog 35 #[.pointer (some ⟨tb,0,none⟩),.int .i64 (id:Int)] w fun e w'=>e=.returned (.tuple #[.string (Vw C st id),.int .i64 0])/\∃ W',Tt W' w' tb X (k+8006) C st mk wh/\Fr W W' w w':=by
 have CP:Hid (Calls Tryz.prog 59 #[.pointer (some ⟨tb,0,none⟩),.int .i64 (id:Int)] w fun e w'=>e=.returned (.tuple #[.string (Vw C st id),.int .i64 0])/\∃ W',Tt W' w' tb X (k+8006) C st mk wh/\Fr W W' w w'):=h.page hk id hid
 have hne2:=ne_of_size hne
 have hne3:¬ (Vw C st id).toList=[]:=by simpa using hne2
 clear h hne
 generalize Vw C st id=t at *
 go_enter Tryz.func35,Tryz.ntmps35
 go_wp2_with (go_at_call 59;refine CP.out.mono ?_;rintro e w2 ⟨rfl,W2,T2,F2⟩;have HT:Hid _:=T2;have HF:Hid _:=F2;clear T2 F2)
 go_ret2
 exact⟨rfl,W2,HT.out,HF.out⟩
end
theorem turn_ins (w:World) (p:ByteArray) (c:Cl) (r:ByteArray) (y:Int) (H:∀ wx,Calls Tryz.prog 74 #[.string p,.agg #[.string c.k,.string c.v]] wx fun e w'=>e=.returned (.tuple #[.string r,.int .i64 y])/\Below wx.heap.size wx w'):Calls Tryz.prog 42 #[.string p,.int .i64 3,.agg #[.string c.k,.string c.v]] w fun e w'=>e=.returned (.tuple #[.string r,.int .i64 y])/\Below w.heap.size w w':=by
 have C1:Hid (∀ wx,Calls Tryz.prog 74 #[.string p,.agg #[.string c.k,.string c.v]] wx fun e w'=>e=.returned (.tuple #[.string r,.int .i64 y])/\Below wx.heap.size wx w'):=H
 clear H
 go_enter Tryz.func42,Tryz.ntmps42
 go_wp2_with (go_at_call 74;refine(C1.out _).mono ?_;rintro e w2 ⟨rfl,b2⟩)
 go_ret2
 exact⟨rfl,thn ((Below.refl _ _).alloc (Nat.le_refl _) _) b2⟩
end Go.Proofs.YtpcnjncgilmehabGreat.Tr
