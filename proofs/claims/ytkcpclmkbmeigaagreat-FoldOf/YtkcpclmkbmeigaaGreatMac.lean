import Derived.Test.YtkcpclmkbmeigaaGreatMab
import Derived.BigRegion
set_option linter.unusedVariables false
set_option linter.unusedSimpArgs false
set_option maxRecDepth 100000
namespace Go.Proofs.YtkcpclmkbmeigaaGreat.Fd
open Go.RowKit Gm Go.Maps
theorem ltB_b (a b:ByteArray):Op.bytesLess a.toList b.toList=true↔blt a b:=by
 rw[Proofs.bytesLess_eq,Lib.toList_data,Lib.toList_data]
 exact decide_eq_true_iff
section
variable {w:World}{K:List CL}
set_option maxHeartbeats 1000000 in
theorem place_any {a:Option Addr} {c:Nat} (h:Rv w (.slice a K.length c) K) (hn:K.length<=100000) (key:ByteArray):Calls Tryz.prog 95 #[.slice a K.length c,.string key] w fun e w'=>e=.returned (.tuple #[.int .i64 (plc K key:Nat),.bool (isK K key)])/\Below w.heap.size w w':=by
 have HV:Hid (Rv w (.slice a K.length c) K):=h
 have hx:=plc_le K key
 clear h
 go_enter Tryz.func95,Tryz.ntmps95
 go_wp2
 go_loopw [6] (fun vi wr=>∃ i:Nat,vi=.int .i64 (i:Int)/\i<=plc K key/\Below w.heap.size w wr) (fun vi _=>plc K key-(intOf vi).toNat)
 case atStart=>exact⟨0,rfl,Nat.zero_le _,Below.refl _ _⟩
 case round =>
  obtain⟨i,rfl,hi,hB⟩:=hrel
  rename World=>wo
  have HB:Hid (Below w.heap.size w wo):=hB
  clear hB
  by_cases hlt:i<plc K key
  ·have hltI:(i:Int)<(K.length:Int):=by omega
   have hi1:i<K.length:=by omega
   obtain⟨g,o,rfl,_,c0,c1⟩:=(HV.out.bel HB.out).at_ hi1
   have hls:Op.bytesLess K[i].1.toList key.toList=true:=(ltB_b _ _).2 (plc_lt hlt)
   generalize K[i].1=ka at *
   clear c1
   go_wp2
   go_roundw
   case rel=>exact⟨i+1,by go_num,by omega,HB.out⟩
   case measure=>simp[intOf];omega
  ·obtain rfl:i=plc K key:=by omega
   by_cases hp:plc K key<K.length
   ·have hpI:((plc K key:Nat):Int)<(K.length:Int):=by omega
    obtain⟨g,o,rfl,_,c0,c1⟩:=(HV.out.bel HB.out).at_ hp
    have c0':wo.drew.cell? ⟨g,o+plc K key*2,none⟩=some (.string K[plc K key].1):=c0
    have hnl:¬ blt K[plc K key].1 key:=by
     have h2:(!decide (blt (K[plc K key]'hp).1 key))=true:=List.findIdx_getElem (w:=hp)
     simpa using h2
    have hls:Op.bytesLess K[plc K key].1.toList key.toList=false:=by
     cases e:Op.bytesLess K[plc K key].1.toList key.toList with
     | false=>rfl
     | true=>exact absurd ((ltB_b _ _).1 e) hnl
    have hi2:Hid (isK K key=(K[plc K key].1.toList==key.toList)):=by
     show _=_
     unfold isK
     rw[List.getElem?_eq_getElem hp]
     by_cases e:K[plc K key].1=key
     ·rw[tl_eq.2 e];simp[e]
     ·have:(K[plc K key].1.toList==key.toList)=false:=by
       cases e2:(K[plc K key].1.toList==key.toList) with
       | false=>rfl
       | true=>exact absurd (tl_eq.1 e2) e
      rw[this];simp[e]
    clear c1 hnl
    generalize K[plc K key].1=ka at *
    generalize hbb:(ka.toList==key.toList)=bb at *
    go_wp2_with fail
    go_big_region
    all_goals go_wp2
    all_goals go_ret2
    all_goals exact⟨by rw[hi2.out];rfl,bdr HB.out 1⟩
   ·have hpI:¬ ((plc K key:Nat):Int)<(K.length:Int):=by omega
    have hi2:Hid (isK K key=false):=by show _=_;unfold isK;rw[List.getElem?_eq_none (by omega)]
    go_wp2_with fail
    go_big_region
    all_goals go_wp2
    all_goals go_ret2
    all_goals exact⟨by rw[hi2.out];rfl,bdr HB.out 1⟩
theorem seg_at {a:Option Addr} {c:Nat} (h:Row w 73 2 (.slice a K.length c) (K.map encC)) (i k:Nat) (hi:i+k<=K.length) (hk:0<k):∃ g,a=some ⟨g,0,none⟩/\∀ wx,Below w.heap.size w wx->∀ j u,(((K.drop i).take k).map encC).flatten[j]?=some u->wx.cell? ⟨g,i*2+j,none⟩=some u:=by
 obtain⟨g,ea,_⟩:=h.at_ (i:=i) (by rw[List.length_map];omega)
 subst ea
 refine⟨g,rfl,fun wx hb j u hu=>?_⟩
 have e:K.map encC=(K.take i).map encC++((K.drop i).take k).map encC++(K.drop (i+k)).map encC:=by
  rw[← List.map_append,← List.map_append]
  congr 1
  conv=>lhs;rw[← List.take_append_drop i K]
  rw[List.append_assoc]
  congr 1
  conv=>lhs;rw[← List.take_append_drop k (K.drop i)]
  rw[List.drop_drop]
 have:=(h.bel hb).seg e j u hu
 rw[List.length_map,List.length_take,show min i K.length=i by omega] at this
 exact this
theorem run_app0 (w:World) (ty:TypeId) (b:Option Addr) (n cap:Nat) (x:Option Addr) (cx:Nat) (hn:n<=cap):(Builtin.append_ #[58,58] ty #[.slice b n cap,.slice x 0 cx]).run Tryz.prog w=.ok (.slice b n cap) w:=by
 obtain⟨i,hi,hz0,hz1,hz2⟩:=(elC).info
 have hf:(Builtin.firstCells i.size 0 (.slice x 0 cx)).run Tryz.prog w=.ok #[] w:=by
  cases x with
  | none=>rfl
  | some ad=>exact run_firstCells_some (P:=Tryz.prog) w i.size 0 ad 0 cx [] (by simp) (fun j u hu=>by simp at hu)
 cases b <;> simp[Builtin.append_,run_underlying Tryz.underlying58,sizeOf,typeInfo,hi,Builtin.lenOf,hn,hf,storeCells]
theorem wpList_app0 {ops:Array Oper} {rest:List Oper} {o:Oper} {act:Act} {Q:Exit->Act->World->Prop} {w:World} (hgd:o.guard=none) (s x:Operand) (ho:o.op=.call {callee:=.builtin .append,args:=#[s,x],argTypes:=#[58,58]}) {b xa:Option Addr} {n cap cx:Nat}
  (hs:act.eval s=.slice b n cap) (hx:act.eval x=.slice xa 0 cx) (hn:n<=cap) (K:wpList Tryz.prog ops Q rest (act.put o.dst (.slice b n cap)) w):wpList Tryz.prog ops Q (o ::rest) act w:=by
 refine wpList_plain hgd fun K' hK=>?_
 unfold Oper.wp execOp
 simp only[ho,resolve,invoke,builtin,Sem.run_bind,Sem.run_pure,Result.andThen_ok,List.map_toArray,List.map_cons,List.map_nil,hs,hx,run_app0 w o.type b n cap xa cx hn]
 exact hK _ _ K
structure Gat (w wx:World) (v:Value) (M:List CL):Prop where
 row:Row wx 73 2 v (M.map encC)
 bel:Below w.heap.size w wx
 own:∀ g,v.ownBlock=some g->w.heap.size<=g
theorem Gat.push {w wx wy:World} {v v':Value} {M M2:List CL} (h:Gat w wx v M) (A:App wx wy 73 2 v v' (M.map encC++M2.map encC)):Gat w wy v' (M++M2) :=
 ⟨by rw[List.map_append];exact A.row,h.bel.trans (A.bel (fun g e=>h.own g e) h.bel.size),fun g e=>A.own.elim (fun e2=>h.own g (e2.symm.trans e)) (fun e2=>by rw[e2] at e;cases e;exact h.bel.size)⟩
theorem Gat.below {w wx wy:World} {v:Value} {M:List CL} (h:Gat w wx v M) (hb:Below wx.heap.size wx wy):Gat w wy v M:=⟨h.row.bel hb,thn h.bel hb,h.own⟩
theorem Gat.start {w w2 w3:World} {b:Nat} (hb:Below w.heap.size w w2) (N:New w2 w3 b 73 #[]):Gat w w3 (.slice (some ⟨b,0,none⟩) 0 0) [] :=
 ⟨Row.empty N.is,thn hb N.bel,fun g e=>by cases e;rw[N.eq];exact hb.size⟩
set_option maxHeartbeats 2000000 in
theorem Lay_nil (w:World) (p t:ByteArray):Calls Tryz.prog 62 #[.slice none 0 0,.agg #[.string p,.string t]] w fun e w'=>ClE w e w' [(p,t)]:=by
 have CP:Hid (∀ wx,Calls Tryz.prog 95 #[.slice none 0 0,.string p] wx fun e w'=>e=.returned (.tuple #[.int .i64 0,.bool false])/\Below wx.heap.size wx w'):=fun wx=>place_any (K:=[]) (a:=none) (c:=0) (Rv.of_row (C:=[]) (Row.nil _ _ _)) (by decide) p
 go_enter Tryz.func62,Tryz.ntmps62
 go_wp2_with first
  | (refine wpList_box_at (A:=#[.string p,.string t]) _ rfl _ rfl rfl ?_;intro w1 b1 N1;have k1:w1.cell? ⟨b1,0,none⟩=some (.string p):=N1.is.c 0)
  | (go_at_call 95;refine(CP.out _).mono ?_;rintro e w2 ⟨rfl,b2⟩;have X2:Hid (Below w.heap.size w w2/\At w2 b1 73 #[.string p,.string t]):=⟨thn N1.bel b2,N1.is.bel b2⟩;clear b2)
  | (refine wpList_build0 _ rfl rfl bC0 ?_;intro w3 b3 N3;have G3:Hid (Gat w w3 (.slice (some ⟨b3,0,none⟩) 0 0) []):=Gat.start X2.out.1 N3;have A3:Hid (At w3 b1 73 #[.string p,.string t]):=X2.out.2.bel N3.bel)
  | (refine wpList_app0 rfl _ _ rfl rfl rfl (by omega) ?_)
  | (refine wpList_load_at stC (A:=#[.string p,.string t]) _ rfl _ rfl rfl A3.out rfl ?_)
  | (refine wpList_build1 (u:=.agg #[.string p,.string t]) (A:=#[.string p,.string t]) _ rfl _ rfl rfl (bC1 p t) ?_;intro w4 b4 N4;have G4:Hid (Gat w w4 (.slice (some ⟨b3,0,none⟩) 0 0) []):=G3.out.below N4.bel)
  | (refine wpList_push elC (A:=#[.string p,.string t]) (L:=List.map encC []) rfl _ _ rfl rfl G4.out.row rfl N4.is rfl (by intro u hu;simp at hu;rcases hu with rfl | rfl <;> rfl) (by simp) ?_;intro a5 c5 w5 A5;have G5:Hid (Gat w w5 (.slice a5 1 c5) [(p,t)]):=G4.out.push (M2:=[(p,t)]) A5;have hc5:1<=c5:=(by obtain⟨a6,c6,e6,h6⟩:=G5.out.row.sl;injection e6 with _ _ e7;rw[e7];exact h6))
 go_ret
 exact⟨⟨_,rfl,G5.out.row,G5.out.own⟩,G5.out.bel⟩
set_option maxHeartbeats 4000000 in
theorem Lay_some {g c:Nat} (h:Row w 73 2 (.slice (some ⟨g,0,none⟩) K.length c) (K.map encC)) (hn:K.length<=1000) (p t:ByteArray):Calls Tryz.prog 62 #[.slice (some ⟨g,0,none⟩) K.length c,.agg #[.string p,.string t]] w fun e w'=>ClE w e w' (putK K (p,t)):=by
 have HR:Hid (Row w 73 2 (.slice (some ⟨g,0,none⟩) K.length c) (K.map encC)):=h
 obtain⟨hkc,hcm⟩:K.length<=c/\c<=9223372036854775807:=by
  rcases h.row.2 with⟨e,h0⟩ |⟨g',cap,cur,e,_,_,h3,h4,_⟩
  ·injection e with e1 e2 e3
   cases e1
  ·injection e with e1 e2 e3
   rw[List.length_map] at h3
   unfold maxLen at h4
   omega
 have hx:=plc_le K p
 have CP:Hid (∀ wx,Below w.heap.size w wx->Calls Tryz.prog 95 #[.slice (some ⟨g,0,none⟩) K.length c,.string p] wx fun e w'=>e=.returned (.tuple #[.int .i64 (plc K p:Nat),.bool (isK K p)])/\Below wx.heap.size wx w'):=fun wx hb=>place_any (Rv.of_row (h.bel hb)) (by omega) p
 have HS:Hid (∀ i k,i+k<=K.length->0<k->∀ wx,Below w.heap.size w wx->∀ j u,(((K.drop i).take k).map encC).flatten[j]?=some u->wx.cell? ⟨g,i*2+j,none⟩=some u):=fun i k h1 h2 wx hb=>by
  obtain⟨g',e,hh⟩:=seg_at h i k h1 h2
  cases e
  exact hh wx hb
 have HPu:Hid (putK K (p,t)=K.take (plc K p)++[(p,t)]++K.drop (plc K p+if isK K p then 1 else 0)):=rfl
 have HT:Hid ((K.take (plc K p)).length=plc K p/\((K.take (plc K p)).map encC).length=plc K p):=⟨by rw[List.length_take];omega,by rw[List.length_map,List.length_take];omega⟩
 clear h
 cases hb:isK K p with
 | false =>
  rw[hb] at CP HPu
  rw[if_neg (by simp),Nat.add_zero] at HPu
  clear hb
  generalize plc K p=pl at *
  by_cases hcq:c=pl
  ·skip
   have hKl:K.length=pl:=by omega
   subst c
   rw[hKl] at CP ⊢
   have HD:Hid ((K.drop (pl)).length=K.length-(pl)):=List.length_drop
   have H1:Hid (∀ wx,Below w.heap.size w wx->∀ j u,((K.take pl).map encC).flatten[j]?=some u->wx.cell? ⟨g,0+j,none⟩=some u):=fun wx hb j u hu=>by
    rcases Nat.eq_zero_or_pos pl with h0 |h0
    ·rw[h0] at hu;simp at hu
    ·have:=HS.out 0 pl (by omega) h0 wx hb j u (by simpa using hu)
     simpa using this
   have H2:Hid (∀ wx,Below w.heap.size w wx->∀ j u,((K.drop (pl)).map encC).flatten[j]?=some u->wx.cell? ⟨g,(pl)*2+j,none⟩=some u):=fun wx hb j u hu=>by
    rcases Nat.lt_or_ge (pl) K.length with h0 |h0
    ·refine HS.out (pl) (K.length-(pl)) (by omega) (by omega) wx hb j u ?_
     rw[List.take_of_length_le (by rw[List.length_drop];omega)]
     exact hu
    ·rw[List.drop_of_length_le h0] at hu;simp at hu
   have hb2:(pl:Int)<=(K.length:Int):=by omega
   have hb4:(pl:Int)<=((pl:Nat):Int):=by omega
   have hb5:pl<=pl:=by omega
   have hb6:K.length<=pl:=hkc
   have hb7:(K.length:Int)<=((pl:Nat):Int):=by omega
   go_enter Tryz.func62,Tryz.ntmps62
   go_wp2_with first
    | (refine wpList_box_at (A:=#[.string p,.string t]) _ rfl _ rfl rfl ?_;intro w1 b1 N1;have k1:w1.cell? ⟨b1,0,none⟩=some (.string p):=N1.is.c 0)
    | (go_at_call 95;refine(CP.out _ N1.bel).mono ?_;rintro e w2 ⟨rfl,b2⟩;have X2:Hid (Below w.heap.size w w2/\At w2 b1 73 #[.string p,.string t]):=⟨thn N1.bel b2,N1.is.bel b2⟩;clear b2)
    | (refine wpList_build0 _ rfl rfl bC0 ?_;intro w3 b3 N3;have G3:Hid (Gat w w3 (.slice (some ⟨b3,0,none⟩) 0 0) []):=Gat.start X2.out.1 N3;have A3:Hid (At w3 b1 73 #[.string p,.string t]):=X2.out.2.bel N3.bel)
    | (have:=G5.out;refine wpList_app0 rfl _ _ rfl rfl rfl (by have:=HC5.out;omega) ?_)
    | (refine wpList_push elC (A:=#[.string p,.string t]) (L:=List.map encC (K.take pl)) rfl _ _ rfl rfl G4b.out.row rfl N4.is rfl (by intro u hu;simp at hu;rcases hu with rfl | rfl <;> rfl) (by rw[HT.out.2];omega) ?_;intro a5 c5 w5 A5;rw[HT.out.2] at A5 ⊢;have G5:Hid (Gat w w5 (.slice a5 (pl+1) c5) (K.take pl++[(p,t)])):=G4b.out.push (M2:=[(p,t)]) A5;have HC5:Hid (pl+1<=c5):=(by obtain⟨a7,c7,e7,h7⟩:=G5.out.row.sl;injection e7 with _ _ e8;rw[e8];rw[List.length_map,List.length_append,HT.out.1] at h7;exact h7))
    | (refine wpList_load_at stC (A:=#[.string p,.string t]) _ rfl _ rfl rfl A4.out rfl ?_)
    | (refine wpList_build1 (u:=.agg #[.string p,.string t]) (A:=#[.string p,.string t]) _ rfl _ rfl rfl (bC1 p t) ?_;intro w4b b4 N4;have G4b:Hid (Gat w w4b (.slice a4 pl c4) (K.take pl)):=G4.out.below N4.bel)
    | (refine wpList_append elC (L:=[]) (M:=(K.take pl).map encC) (g:=g) (of:=0) (m:=pl) rfl _ _ rfl rfl (Row.empty N3.is) rfl HT.out.2 (enc_len _) (H1.out _ G3.out.bel) (flat_one _) (by have h1:=HT.out.2;simp only[List.length_nil];omega) ?_;intro a4 c4 w4 A4';rw[show([]:List (List Value)).length+pl=pl from Nat.zero_add pl] at A4' ⊢;have G4:Hid (Gat w w4 (.slice a4 pl c4) (K.take pl)):=G3.out.push (M2:=K.take pl) A4';have A4:Hid (At w4 b1 73 #[.string p,.string t]):=A3.out.keep (A4'.grow.block b1 A3.out.lt (fun e=>by have e2:some b1=some b3:=e;injection e2 with e2;have:=X2.out.2.lt;have:=N3.eq;omega)))
   go_ret
   exact⟨⟨_,rfl,by rw[HPu.out,List.drop_of_length_le (by omega),List.append_nil];exact G5.out.row,G5.out.own⟩,G5.out.bel⟩
  ·skip
   have HD:Hid ((K.drop (pl)).length=K.length-(pl)):=List.length_drop
   have H1:Hid (∀ wx,Below w.heap.size w wx->∀ j u,((K.take pl).map encC).flatten[j]?=some u->wx.cell? ⟨g,0+j,none⟩=some u):=fun wx hb j u hu=>by
    rcases Nat.eq_zero_or_pos pl with h0 |h0
    ·rw[h0] at hu;simp at hu
    ·have:=HS.out 0 pl (by omega) h0 wx hb j u (by simpa using hu)
     simpa using this
   have H2:Hid (∀ wx,Below w.heap.size w wx->∀ j u,((K.drop (pl)).map encC).flatten[j]?=some u->wx.cell? ⟨g,(pl)*2+j,none⟩=some u):=fun wx hb j u hu=>by
    rcases Nat.lt_or_ge (pl) K.length with h0 |h0
    ·refine HS.out (pl) (K.length-(pl)) (by omega) (by omega) wx hb j u ?_
     rw[List.take_of_length_le (by rw[List.length_drop];omega)]
     exact hu
    ·rw[List.drop_of_length_le h0] at hu;simp at hu
   have hb2:(pl:Int)<=(K.length:Int):=by omega
   have hb4:(pl:Int)<=(c:Int):=by omega
   have hb5:pl<=c:=by omega
   have hb6:K.length<=c:=hkc
   have hb7:(K.length:Int)<=(c:Int):=by omega
   go_enter Tryz.func62,Tryz.ntmps62
   go_wp2_with first
    | (refine wpList_box_at (A:=#[.string p,.string t]) _ rfl _ rfl rfl ?_;intro w1 b1 N1;have k1:w1.cell? ⟨b1,0,none⟩=some (.string p):=N1.is.c 0)
    | (go_at_call 95;refine(CP.out _ N1.bel).mono ?_;rintro e w2 ⟨rfl,b2⟩;have X2:Hid (Below w.heap.size w w2/\At w2 b1 73 #[.string p,.string t]):=⟨thn N1.bel b2,N1.is.bel b2⟩;clear b2)
    | (refine wpList_build0 _ rfl rfl bC0 ?_;intro w3 b3 N3;have G3:Hid (Gat w w3 (.slice (some ⟨b3,0,none⟩) 0 0) []):=Gat.start X2.out.1 N3;have A3:Hid (At w3 b1 73 #[.string p,.string t]):=X2.out.2.bel N3.bel)
    | (have:=G5.out;refine wpList_append elC (L:=List.map encC (K.take pl++[(p,t)])) (M:=(K.drop (pl)).map encC) (g:=g) (of:=(pl)*2) (m:=K.length-(pl)) rfl _ _ rfl rfl G5.out.row rfl (by rw[List.length_map];exact HD.out) (enc_len _) (H2.out _ G5.out.bel) (flat_one _) (by have h1:=HT.out.1;have h2:=HD.out;simp only[List.length_map,List.length_append,List.length_singleton];omega) ?_;intro a6 c6 w6 A6;have hl6:(List.map encC (K.take pl++[(p,t)])).length=pl+1:=(by have h1:=HT.out.1;simp only[List.length_map,List.length_append,List.length_singleton];omega);rw[hl6] at A6 ⊢;have G6:=G5.out.push A6)
    | (refine wpList_push elC (A:=#[.string p,.string t]) (L:=List.map encC (K.take pl)) rfl _ _ rfl rfl G4b.out.row rfl N4.is rfl (by intro u hu;simp at hu;rcases hu with rfl | rfl <;> rfl) (by rw[HT.out.2];omega) ?_;intro a5 c5 w5 A5;rw[HT.out.2] at A5 ⊢;have G5:Hid (Gat w w5 (.slice a5 (pl+1) c5) (K.take pl++[(p,t)])):=G4b.out.push (M2:=[(p,t)]) A5;have HC5:Hid (pl+1<=c5):=(by obtain⟨a7,c7,e7,h7⟩:=G5.out.row.sl;injection e7 with _ _ e8;rw[e8];rw[List.length_map,List.length_append,HT.out.1] at h7;exact h7))
    | (refine wpList_load_at stC (A:=#[.string p,.string t]) _ rfl _ rfl rfl A4.out rfl ?_)
    | (refine wpList_build1 (u:=.agg #[.string p,.string t]) (A:=#[.string p,.string t]) _ rfl _ rfl rfl (bC1 p t) ?_;intro w4b b4 N4;have G4b:Hid (Gat w w4b (.slice a4 pl c4) (K.take pl)):=G4.out.below N4.bel)
    | (refine wpList_append elC (L:=[]) (M:=(K.take pl).map encC) (g:=g) (of:=0) (m:=pl) rfl _ _ rfl rfl (Row.empty N3.is) rfl HT.out.2 (enc_len _) (H1.out _ G3.out.bel) (flat_one _) (by have h1:=HT.out.2;simp only[List.length_nil];omega) ?_;intro a4 c4 w4 A4';rw[show([]:List (List Value)).length+pl=pl from Nat.zero_add pl] at A4' ⊢;have G4:Hid (Gat w w4 (.slice a4 pl c4) (K.take pl)):=G3.out.push (M2:=K.take pl) A4';have A4:Hid (At w4 b1 73 #[.string p,.string t]):=A3.out.keep (A4'.grow.block b1 A3.out.lt (fun e=>by have e2:some b1=some b3:=e;injection e2 with e2;have:=X2.out.2.lt;have:=N3.eq;omega)))
   go_ret
   exact⟨⟨_,rfl,by rw[HPu.out];exact G6.row,G6.own⟩,G6.bel⟩
 | true =>
  rw[hb] at CP HPu
  have hpt:plc K p<K.length:=(isK_at hb).1
  rw[if_pos rfl] at HPu
  clear hb
  generalize plc K p=pl at *
  by_cases hcq:c=pl+1
  ·skip
   have hKl:K.length=pl+1:=by omega
   subst c
   rw[hKl] at CP ⊢
   have HD:Hid ((K.drop (pl+1)).length=K.length-(pl+1)):=List.length_drop
   have H1:Hid (∀ wx,Below w.heap.size w wx->∀ j u,((K.take pl).map encC).flatten[j]?=some u->wx.cell? ⟨g,0+j,none⟩=some u):=fun wx hb j u hu=>by
    rcases Nat.eq_zero_or_pos pl with h0 |h0
    ·rw[h0] at hu;simp at hu
    ·have:=HS.out 0 pl (by omega) h0 wx hb j u (by simpa using hu)
     simpa using this
   have H2:Hid (∀ wx,Below w.heap.size w wx->∀ j u,((K.drop (pl+1)).map encC).flatten[j]?=some u->wx.cell? ⟨g,(pl+1)*2+j,none⟩=some u):=fun wx hb j u hu=>by
    rcases Nat.lt_or_ge (pl+1) K.length with h0 |h0
    ·refine HS.out (pl+1) (K.length-(pl+1)) (by omega) (by omega) wx hb j u ?_
     rw[List.take_of_length_le (by rw[List.length_drop];omega)]
     exact hu
    ·rw[List.drop_of_length_le h0] at hu;simp at hu
   have hw1:IntKind.i64.wrap ((pl:Int)+1)=(pl:Int)+1:=by rw[IntKind.wrap_i64];omega
   have htn:((pl:Int)+1).toNat=pl+1:=by omega
   have hb1:(0:Int)<=(pl:Int)+1:=by omega
   have hb2:(pl:Int)+1<=(K.length:Int):=by omega
   have hb3:pl+1<=K.length:=by omega
   have hb4:(pl:Int)<=((pl+1:Nat):Int):=by omega
   have hb5:pl<=pl+1:=by omega
   have hb6:K.length<=pl+1:=hkc
   have hb7:(K.length:Int)<=((pl+1:Nat):Int):=by omega
   go_enter Tryz.func62,Tryz.ntmps62
   go_wp2_with first
    | (refine wpList_box_at (A:=#[.string p,.string t]) _ rfl _ rfl rfl ?_;intro w1 b1 N1;have k1:w1.cell? ⟨b1,0,none⟩=some (.string p):=N1.is.c 0)
    | (go_at_call 95;refine(CP.out _ N1.bel).mono ?_;rintro e w2 ⟨rfl,b2⟩;have X2:Hid (Below w.heap.size w w2/\At w2 b1 73 #[.string p,.string t]):=⟨thn N1.bel b2,N1.is.bel b2⟩;clear b2)
    | (refine wpList_build0 _ rfl rfl bC0 ?_;intro w3 b3 N3;have G3:Hid (Gat w w3 (.slice (some ⟨b3,0,none⟩) 0 0) []):=Gat.start X2.out.1 N3;have A3:Hid (At w3 b1 73 #[.string p,.string t]):=X2.out.2.bel N3.bel)
    | (have:=G5.out;refine wpList_app0 rfl _ _ rfl rfl rfl (by have:=HC5.out;omega) ?_)
    | (refine wpList_push elC (A:=#[.string p,.string t]) (L:=List.map encC (K.take pl)) rfl _ _ rfl rfl G4b.out.row rfl N4.is rfl (by intro u hu;simp at hu;rcases hu with rfl | rfl <;> rfl) (by rw[HT.out.2];omega) ?_;intro a5 c5 w5 A5;rw[HT.out.2] at A5 ⊢;have G5:Hid (Gat w w5 (.slice a5 (pl+1) c5) (K.take pl++[(p,t)])):=G4b.out.push (M2:=[(p,t)]) A5;have HC5:Hid (pl+1<=c5):=(by obtain⟨a7,c7,e7,h7⟩:=G5.out.row.sl;injection e7 with _ _ e8;rw[e8];rw[List.length_map,List.length_append,HT.out.1] at h7;exact h7))
    | (refine wpList_load_at stC (A:=#[.string p,.string t]) _ rfl _ rfl rfl A4.out rfl ?_)
    | (refine wpList_build1 (u:=.agg #[.string p,.string t]) (A:=#[.string p,.string t]) _ rfl _ rfl rfl (bC1 p t) ?_;intro w4b b4 N4;have G4b:Hid (Gat w w4b (.slice a4 pl c4) (K.take pl)):=G4.out.below N4.bel)
    | (refine wpList_append elC (L:=[]) (M:=(K.take pl).map encC) (g:=g) (of:=0) (m:=pl) rfl _ _ rfl rfl (Row.empty N3.is) rfl HT.out.2 (enc_len _) (H1.out _ G3.out.bel) (flat_one _) (by have h1:=HT.out.2;simp only[List.length_nil];omega) ?_;intro a4 c4 w4 A4';rw[show([]:List (List Value)).length+pl=pl from Nat.zero_add pl] at A4' ⊢;have G4:Hid (Gat w w4 (.slice a4 pl c4) (K.take pl)):=G3.out.push (M2:=K.take pl) A4';have A4:Hid (At w4 b1 73 #[.string p,.string t]):=A3.out.keep (A4'.grow.block b1 A3.out.lt (fun e=>by have e2:some b1=some b3:=e;injection e2 with e2;have:=X2.out.2.lt;have:=N3.eq;omega)))
   go_ret
   exact⟨⟨_,rfl,by rw[HPu.out,List.drop_of_length_le (by omega),List.append_nil];exact G5.out.row,G5.out.own⟩,G5.out.bel⟩
  ·skip
   have HD:Hid ((K.drop (pl+1)).length=K.length-(pl+1)):=List.length_drop
   have H1:Hid (∀ wx,Below w.heap.size w wx->∀ j u,((K.take pl).map encC).flatten[j]?=some u->wx.cell? ⟨g,0+j,none⟩=some u):=fun wx hb j u hu=>by
    rcases Nat.eq_zero_or_pos pl with h0 |h0
    ·rw[h0] at hu;simp at hu
    ·have:=HS.out 0 pl (by omega) h0 wx hb j u (by simpa using hu)
     simpa using this
   have H2:Hid (∀ wx,Below w.heap.size w wx->∀ j u,((K.drop (pl+1)).map encC).flatten[j]?=some u->wx.cell? ⟨g,(pl+1)*2+j,none⟩=some u):=fun wx hb j u hu=>by
    rcases Nat.lt_or_ge (pl+1) K.length with h0 |h0
    ·refine HS.out (pl+1) (K.length-(pl+1)) (by omega) (by omega) wx hb j u ?_
     rw[List.take_of_length_le (by rw[List.length_drop];omega)]
     exact hu
    ·rw[List.drop_of_length_le h0] at hu;simp at hu
   have hw1:IntKind.i64.wrap ((pl:Int)+1)=(pl:Int)+1:=by rw[IntKind.wrap_i64];omega
   have htn:((pl:Int)+1).toNat=pl+1:=by omega
   have hb1:(0:Int)<=(pl:Int)+1:=by omega
   have hb2:(pl:Int)+1<=(K.length:Int):=by omega
   have hb3:pl+1<=K.length:=by omega
   have hb4:(pl:Int)<=(c:Int):=by omega
   have hb5:pl<=c:=by omega
   have hb6:K.length<=c:=hkc
   have hb7:(K.length:Int)<=(c:Int):=by omega
   go_enter Tryz.func62,Tryz.ntmps62
   go_wp2_with first
    | (refine wpList_box_at (A:=#[.string p,.string t]) _ rfl _ rfl rfl ?_;intro w1 b1 N1;have k1:w1.cell? ⟨b1,0,none⟩=some (.string p):=N1.is.c 0)
    | (go_at_call 95;refine(CP.out _ N1.bel).mono ?_;rintro e w2 ⟨rfl,b2⟩;have X2:Hid (Below w.heap.size w w2/\At w2 b1 73 #[.string p,.string t]):=⟨thn N1.bel b2,N1.is.bel b2⟩;clear b2)
    | (refine wpList_build0 _ rfl rfl bC0 ?_;intro w3 b3 N3;have G3:Hid (Gat w w3 (.slice (some ⟨b3,0,none⟩) 0 0) []):=Gat.start X2.out.1 N3;have A3:Hid (At w3 b1 73 #[.string p,.string t]):=X2.out.2.bel N3.bel)
    | (have:=G5.out;refine wpList_append elC (L:=List.map encC (K.take pl++[(p,t)])) (M:=(K.drop (pl+1)).map encC) (g:=g) (of:=(pl+1)*2) (m:=K.length-(pl+1)) rfl _ _ rfl rfl G5.out.row rfl (by rw[List.length_map];exact HD.out) (enc_len _) (H2.out _ G5.out.bel) (flat_one _) (by have h1:=HT.out.1;have h2:=HD.out;simp only[List.length_map,List.length_append,List.length_singleton];omega) ?_;intro a6 c6 w6 A6;have hl6:(List.map encC (K.take pl++[(p,t)])).length=pl+1:=(by have h1:=HT.out.1;simp only[List.length_map,List.length_append,List.length_singleton];omega);rw[hl6] at A6 ⊢;rw[show pl+1+(K.length-(pl+1))=K.length by omega] at A6 ⊢;have G6:=G5.out.push A6)
    | (refine wpList_push elC (A:=#[.string p,.string t]) (L:=List.map encC (K.take pl)) rfl _ _ rfl rfl G4b.out.row rfl N4.is rfl (by intro u hu;simp at hu;rcases hu with rfl | rfl <;> rfl) (by rw[HT.out.2];omega) ?_;intro a5 c5 w5 A5;rw[HT.out.2] at A5 ⊢;have G5:Hid (Gat w w5 (.slice a5 (pl+1) c5) (K.take pl++[(p,t)])):=G4b.out.push (M2:=[(p,t)]) A5;have HC5:Hid (pl+1<=c5):=(by obtain⟨a7,c7,e7,h7⟩:=G5.out.row.sl;injection e7 with _ _ e8;rw[e8];rw[List.length_map,List.length_append,HT.out.1] at h7;exact h7))
    | (refine wpList_load_at stC (A:=#[.string p,.string t]) _ rfl _ rfl rfl A4.out rfl ?_)
    | (refine wpList_build1 (u:=.agg #[.string p,.string t]) (A:=#[.string p,.string t]) _ rfl _ rfl rfl (bC1 p t) ?_;intro w4b b4 N4;have G4b:Hid (Gat w w4b (.slice a4 pl c4) (K.take pl)):=G4.out.below N4.bel)
    | (refine wpList_append elC (L:=[]) (M:=(K.take pl).map encC) (g:=g) (of:=0) (m:=pl) rfl _ _ rfl rfl (Row.empty N3.is) rfl HT.out.2 (enc_len _) (H1.out _ G3.out.bel) (flat_one _) (by have h1:=HT.out.2;simp only[List.length_nil];omega) ?_;intro a4 c4 w4 A4';rw[show([]:List (List Value)).length+pl=pl from Nat.zero_add pl] at A4' ⊢;have G4:Hid (Gat w w4 (.slice a4 pl c4) (K.take pl)):=G3.out.push (M2:=K.take pl) A4';have A4:Hid (At w4 b1 73 #[.string p,.string t]):=A3.out.keep (A4'.grow.block b1 A3.out.lt (fun e=>by have e2:some b1=some b3:=e;injection e2 with e2;have:=X2.out.2.lt;have:=N3.eq;omega)))
   go_ret
   exact⟨⟨_,rfl,by rw[HPu.out];exact G6.row,G6.own⟩,G6.bel⟩
set_option maxHeartbeats 4000000 in
theorem Gone_some {g c:Nat} (h:Row w 73 2 (.slice (some ⟨g,0,none⟩) K.length c) (K.map encC)) (hn:K.length<=1000) (p:ByteArray) (hk:isK K p=true):Calls Tryz.prog 61 #[.slice (some ⟨g,0,none⟩) K.length c,.string p] w fun e w'=>ClE w e w' (delK K p):=by
 have HR:Hid (Row w 73 2 (.slice (some ⟨g,0,none⟩) K.length c) (K.map encC)):=h
 obtain⟨hkc,hcm⟩:K.length<=c/\c<=9223372036854775807:=by
  rcases h.row.2 with⟨e,h0⟩ |⟨g',cap,cur,e,_,_,h3,h4,_⟩
  ·injection e with e1 e2 e3
   cases e1
  ·injection e with e1 e2 e3
   rw[List.length_map] at h3
   unfold maxLen at h4
   omega
 have hx:=plc_le K p
 have CP:Hid (∀ wx,Below w.heap.size w wx->Calls Tryz.prog 95 #[.slice (some ⟨g,0,none⟩) K.length c,.string p] wx fun e w'=>e=.returned (.tuple #[.int .i64 (plc K p:Nat),.bool (isK K p)])/\Below wx.heap.size wx w'):=fun wx hb=>place_any (Rv.of_row (h.bel hb)) (by omega) p
 have HS:Hid (∀ i k,i+k<=K.length->0<k->∀ wx,Below w.heap.size w wx->∀ j u,(((K.drop i).take k).map encC).flatten[j]?=some u->wx.cell? ⟨g,i*2+j,none⟩=some u):=fun i k h1 h2 wx hb=>by
  obtain⟨g',e,hh⟩:=seg_at h i k h1 h2
  cases e
  exact hh wx hb
 have HPu:Hid (delK K p=K.take (plc K p)++K.drop (plc K p+1)):=if_pos hk
 have HT:Hid ((K.take (plc K p)).length=plc K p/\((K.take (plc K p)).map encC).length=plc K p):=⟨by rw[List.length_take];omega,by rw[List.length_map,List.length_take];omega⟩
 clear h
 rw[hk] at CP
 have hpt:plc K p<K.length:=(isK_at hk).1
 clear hk
 generalize plc K p=pl at *
 by_cases hcq:c=pl+1
 ·skip
  have hKl:K.length=pl+1:=by omega
  subst c
  rw[hKl] at CP ⊢
  have HD:Hid ((K.drop (pl+1)).length=K.length-(pl+1)):=List.length_drop
  have H1:Hid (∀ wx,Below w.heap.size w wx->∀ j u,((K.take pl).map encC).flatten[j]?=some u->wx.cell? ⟨g,0+j,none⟩=some u):=fun wx hb j u hu=>by
   rcases Nat.eq_zero_or_pos pl with h0 |h0
   ·rw[h0] at hu;simp at hu
   ·have:=HS.out 0 pl (by omega) h0 wx hb j u (by simpa using hu)
    simpa using this
  have H2:Hid (∀ wx,Below w.heap.size w wx->∀ j u,((K.drop (pl+1)).map encC).flatten[j]?=some u->wx.cell? ⟨g,(pl+1)*2+j,none⟩=some u):=fun wx hb j u hu=>by
   rcases Nat.lt_or_ge (pl+1) K.length with h0 |h0
   ·refine HS.out (pl+1) (K.length-(pl+1)) (by omega) (by omega) wx hb j u ?_
    rw[List.take_of_length_le (by rw[List.length_drop];omega)]
    exact hu
   ·rw[List.drop_of_length_le h0] at hu;simp at hu
  have hw1:IntKind.i64.wrap ((pl:Int)+1)=(pl:Int)+1:=by rw[IntKind.wrap_i64];omega
  have htn:((pl:Int)+1).toNat=pl+1:=by omega
  have hb1:(0:Int)<=(pl:Int)+1:=by omega
  have hb2:(pl:Int)+1<=(K.length:Int):=by omega
  have hb3:pl+1<=K.length:=by omega
  have hb4:(pl:Int)<=((pl+1:Nat):Int):=by omega
  have hb5:pl<=pl+1:=by omega
  have hb6:K.length<=pl+1:=hkc
  have hb7:(K.length:Int)<=((pl+1:Nat):Int):=by omega
  go_enter Tryz.func61,Tryz.ntmps61
  go_wp2_with first
   | (go_at_call 95;refine(CP.out _ (Below.refl _ _)).mono ?_;rintro e w2 ⟨rfl,b2⟩;have X2:Hid (Below w.heap.size w w2):=b2;clear b2)
   | (refine wpList_build0 _ rfl rfl bC0 ?_;intro w3 b3 N3;have G3:Hid (Gat w w3 (.slice (some ⟨b3,0,none⟩) 0 0) []):=Gat.start X2.out N3)
   | (have:=G4.out;refine wpList_app0 rfl _ _ rfl rfl rfl (by have:=HC4.out;omega) ?_)
   | (refine wpList_append elC (L:=[]) (M:=(K.take pl).map encC) (g:=g) (of:=0) (m:=pl) rfl _ _ rfl rfl (Row.empty N3.is) rfl HT.out.2 (enc_len _) (H1.out _ G3.out.bel) (flat_one _) (by have h1:=HT.out.2;simp only[List.length_nil];omega) ?_;intro a4 c4 w4 A4';rw[show([]:List (List Value)).length+pl=pl from Nat.zero_add pl] at A4' ⊢;have G4:Hid (Gat w w4 (.slice a4 pl c4) (K.take pl)):=G3.out.push (M2:=K.take pl) A4';have HC4:Hid (pl<=c4):=(by obtain⟨a7,c7,e7,h7⟩:=G4.out.row.sl;injection e7 with _ _ e8;rw[e8];rw[HT.out.2] at h7;exact h7))
  go_ret
  exact⟨⟨_,rfl,by rw[HPu.out,List.drop_of_length_le (by omega),List.append_nil];exact G4.out.row,G4.out.own⟩,G4.out.bel⟩
 ·skip
  have HD:Hid ((K.drop (pl+1)).length=K.length-(pl+1)):=List.length_drop
  have H1:Hid (∀ wx,Below w.heap.size w wx->∀ j u,((K.take pl).map encC).flatten[j]?=some u->wx.cell? ⟨g,0+j,none⟩=some u):=fun wx hb j u hu=>by
   rcases Nat.eq_zero_or_pos pl with h0 |h0
   ·rw[h0] at hu;simp at hu
   ·have:=HS.out 0 pl (by omega) h0 wx hb j u (by simpa using hu)
    simpa using this
  have H2:Hid (∀ wx,Below w.heap.size w wx->∀ j u,((K.drop (pl+1)).map encC).flatten[j]?=some u->wx.cell? ⟨g,(pl+1)*2+j,none⟩=some u):=fun wx hb j u hu=>by
   rcases Nat.lt_or_ge (pl+1) K.length with h0 |h0
   ·refine HS.out (pl+1) (K.length-(pl+1)) (by omega) (by omega) wx hb j u ?_
    rw[List.take_of_length_le (by rw[List.length_drop];omega)]
    exact hu
   ·rw[List.drop_of_length_le h0] at hu;simp at hu
  have hw1:IntKind.i64.wrap ((pl:Int)+1)=(pl:Int)+1:=by rw[IntKind.wrap_i64];omega
  have htn:((pl:Int)+1).toNat=pl+1:=by omega
  have hb1:(0:Int)<=(pl:Int)+1:=by omega
  have hb2:(pl:Int)+1<=(K.length:Int):=by omega
  have hb3:pl+1<=K.length:=by omega
  have hb4:(pl:Int)<=(c:Int):=by omega
  have hb5:pl<=c:=by omega
  have hb6:K.length<=c:=hkc
  have hb7:(K.length:Int)<=(c:Int):=by omega
  go_enter Tryz.func61,Tryz.ntmps61
  go_wp2_with first
   | (go_at_call 95;refine(CP.out _ (Below.refl _ _)).mono ?_;rintro e w2 ⟨rfl,b2⟩;have X2:Hid (Below w.heap.size w w2):=b2;clear b2)
   | (refine wpList_build0 _ rfl rfl bC0 ?_;intro w3 b3 N3;have G3:Hid (Gat w w3 (.slice (some ⟨b3,0,none⟩) 0 0) []):=Gat.start X2.out N3)
   | (have:=G4.out;refine wpList_append elC (L:=List.map encC (K.take pl)) (M:=(K.drop (pl+1)).map encC) (g:=g) (of:=(pl+1)*2) (m:=K.length-(pl+1)) rfl _ _ rfl rfl G4.out.row rfl (by rw[List.length_map];exact HD.out) (enc_len _) (H2.out _ G4.out.bel) (flat_one _) (by have h1:=HT.out.1;have h2:=HD.out;simp only[List.length_map];omega) ?_;intro a6 c6 w6 A6;have hl6:(List.map encC (K.take pl)).length=pl:=(by have h1:=HT.out.1;simp only[List.length_map,List.length_append,List.length_singleton];omega);rw[hl6] at A6 ⊢;have G6:=G4.out.push A6)
   | (refine wpList_append elC (L:=[]) (M:=(K.take pl).map encC) (g:=g) (of:=0) (m:=pl) rfl _ _ rfl rfl (Row.empty N3.is) rfl HT.out.2 (enc_len _) (H1.out _ G3.out.bel) (flat_one _) (by have h1:=HT.out.2;simp only[List.length_nil];omega) ?_;intro a4 c4 w4 A4';rw[show([]:List (List Value)).length+pl=pl from Nat.zero_add pl] at A4' ⊢;have G4:Hid (Gat w w4 (.slice a4 pl c4) (K.take pl)):=G3.out.push (M2:=K.take pl) A4';have HC4:Hid (pl<=c4):=(by obtain⟨a7,c7,e7,h7⟩:=G4.out.row.sl;injection e7 with _ _ e8;rw[e8];rw[HT.out.2] at h7;exact h7))
  go_ret
  exact⟨⟨_,rfl,by rw[HPu.out];exact G6.row,G6.own⟩,G6.bel⟩
theorem Lay_row {v:Value} (h:Row w 73 2 v (K.map encC)) (hn:K.length<=1000) (p t:ByteArray):Calls Tryz.prog 62 #[v,.agg #[.string p,.string t]] w fun e w'=>ClE w e w' (putK K (p,t)):=by
 rcases h.row.2 with⟨rfl,h0⟩ |⟨g,cap,cur,e,hB,hg,h3,h4,h5,h6⟩
 ·have hK:K=[]:=List.eq_nil_of_length_eq_zero (by rw[List.length_map] at h0;exact h0)
  subst hK
  exact Lay_nil w p t
 ·rw[List.length_map] at e
  subst e
  exact Lay_some h hn p t
structure GoE (w:World) (e:Ending) (w':World) (v:Value) (K:List CL):Prop where
 ex:∃ v',e=.returned v'/\Row w' 73 2 v' (K.map encC)/\(v'=v∨∀ g,v'.ownBlock=some g->w.heap.size<=g)
 bel:Below w.heap.size w w'
theorem Gone_no {a:Option Addr} {c:Nat} (h:Row w 73 2 (.slice a K.length c) (K.map encC)) (hn:K.length<=1000) (p:ByteArray) (hk:isK K p=false):Calls Tryz.prog 61 #[.slice a K.length c,.string p] w fun e w'=>e=.returned (.slice a K.length c)/\Below w.heap.size w w':=by
 have CP:=place_any (Rv.of_row h) (by omega) p
 rw[hk] at CP
 clear h hk
 generalize K.length=m at *
 generalize plc K p=pl at *
 go_enter Tryz.func61,Tryz.ntmps61
 go_wp2_with (go_at_call 95;refine CP.mono ?_;rintro e w2 ⟨rfl,b2⟩)
 go_ret
 exact⟨rfl,b2⟩
theorem Gone_row {v:Value} (h:Row w 73 2 v (K.map encC)) (hn:K.length<=1000) (p:ByteArray):Calls Tryz.prog 61 #[v,.string p] w fun e w'=>GoE w e w' v (delK K p):=by
 obtain⟨a,c,ea,_⟩:=h.sl
 rw[List.length_map] at ea
 subst ea
 cases hk:isK K p with
 | false =>
  have e9:delK K p=K:=by unfold delK;rw[if_neg (by rw[hk];simp)]
  rw[e9]
  refine(Gone_no h hn p hk).mono ?_
  rintro e w' ⟨rfl,hb⟩
  exact⟨⟨_,rfl,h.bel hb,Or.inl rfl⟩,hb⟩
 | true =>
  obtain⟨hp,_⟩:=isK_at hk
  rcases h.row.2 with⟨e,h0⟩ |⟨g,cap,cur,e,hB,hg,h3,h4,h5,h6⟩
  ·rw[List.length_map] at h0;omega
  ·injection e with e1 e2 e3
   subst e1
   refine(Gone_some h hn p hk).mono ?_
   rintro e w' ⟨⟨v',rfl,r1,r2⟩,r3⟩
   exact⟨⟨v',rfl,r1,Or.inr r2⟩,r3⟩
end
def recB (x:Bk):Rc:=⟨x.act,x.tx,0,0,0,x.ky,⟨#[]⟩,x.nw,0,0,0⟩
def encR (x:Bk):List Value:=((recB x).A (.slice none 0 0) (.slice none 0 0)).toList
theorem i1R:(Tryz.prog.info? 43).map (·.size)=some 1:=by kernel_rfl
structure PlO (w0 w:World) (pb:Nat) (vc vb:Value) (p:Ps):Prop where
 is:At w pb 60 #[vc,vb,.int .i64 p.n]
 rc:Row w 73 2 vc (p.K.map encC)
 rb:Row w 54 13 vb (p.B.map encR)
 bel:Below w0.heap.size w0 w
 pbo:w0.heap.size<=pb
 co:∀ g,vc.ownBlock=some g->w0.heap.size<=g
 bo:∀ g,vb.ownBlock=some g->w0.heap.size<=g
section
variable {w0 w:World}{pb:Nat}{vc vb:Value}{p:Ps}{r:Rc}{I T:Value}
theorem PlO.below {w':World} (h:PlO w0 w pb vc vb p) (hb:Below w.heap.size w w'):PlO w0 w' pb vc vb p :=
 ⟨h.is.bel hb,h.rc.bel hb,h.rb.bel hb,thn h.bel hb,h.pbo,h.co,h.bo⟩
structure NtO (w0:World) (pb:Nat) (p:Ps) (e:Ending) (w':World):Prop where
 ex:e=.returned (.tuple #[])/\∃ vc vb,PlO w0 w' pb vc vb p
set_option maxHeartbeats 2000000 in
theorem note_not (h:PlO w0 w pb vc vb p) (h1:r.kd<3∨8<r.kd):Calls Tryz.prog 25 #[.pointer (some ⟨pb,0,none⟩),.agg (r.A I T)] w fun e w'=>NtO w0 pb (noteP p r) e w':=by
 have e9:noteP p r=p:=by unfold noteP;rw[if_neg (by omega),if_neg (by omega),if_neg (by omega)]
 rw[e9]
 have H:Hid (PlO w0 w pb vc vb p):=h
 clear h e9
 obtain⟨kd,tx,pv,pg,ac,ky,ol,nw,nx,ep,nd⟩:=r
 dsimp only at h1
 unfold Rc.A
 have k1:(kd==6)=false:=by simp;omega
 have k2:(kd !=7)=true:=by simp;omega
 have k3:(kd !=8)=true:=by simp;omega
 have k4:3<=kd->¬ kd<=6:=by omega
 by_cases k5:3<=kd
 all_goals
  first |(have k6:=k4 k5) |skip
  clear k4
  go_enter Tryz.func25,Tryz.ntmps25
  go_wp2
  refine bodyPost_ret (results_none rfl _ _ _) rfl ?_
  exact⟨rfl,_,_,H.out.below (bl1 _)⟩
theorem elR:El 43 54 13 (.agg #[.int .i64 0,.int .i64 0,.int .i64 0,.int .i64 0,.int .i64 0,.string ⟨#[]⟩,.string ⟨#[]⟩,.string ⟨#[]⟩,.int .i64 0,.slice none 0 0,.slice none 0 0,.int .i64 0,.int .i64 0]):=⟨Tryz.underlying43,by
 obtain⟨i,h1,h2,h3,h4⟩:=info_parts (show(Tryz.prog.info? 54).map (fun i=>(i.zero,i.size,i.bytes))=some (some (.agg #[.int .i64 0,.int .i64 0,.int .i64 0,.int .i64 0,.int .i64 0,.string ⟨#[]⟩,.string ⟨#[]⟩,.string ⟨#[]⟩,.int .i64 0,.slice none 0 0,.slice none 0 0,.int .i64 0,.int .i64 0]),13,160) by kernel_rfl)
 exact⟨i,h1,h2,h3,by omega⟩,rfl,by omega⟩
theorem bR1 (x:Bk) (w:World):(Instr.buildSlice 43 1 #[(0,.agg ((recB x).A (.slice none 0 0) (.slice none 0 0)))]).run Tryz.prog w=.ok (.slice (some ⟨w.heap.size,0,none⟩) 1 1) (w.alloc (.cells ((recB x).A (.slice none 0 0) (.slice none 0 0)) 54)):=by kernel_rfl
theorem load_sr {b k n c:Nat} {a:Option Addr} (h:w.cell? ⟨b,k,none⟩=some (.slice a n c)):(Instr.loadAt 43 (.pointer (some ⟨b,k,none⟩))).run Tryz.prog w=.ok (.slice a n c) w:=by
 go_simp
theorem oneR (x:Bk):∀ u∈((recB x).A (.slice none 0 0) (.slice none 0 0)).toList,u.oneCell'=true:=by
 intro u hu
 simp[Rc.A] at hu
 rcases hu with rfl |rfl |rfl |rfl |rfl |rfl |rfl |rfl |rfl |rfl |rfl |rfl |rfl <;> rfl
theorem PlO.pushB {K:List CL} {B:List Bk} {n:Int} {wA:World} {ab aA:Option Addr} {cb cA xb:Nat} {x:Bk} {RA:Array Value} (h:PlO w0 w pb vc (.slice ab B.length cb) ⟨K,B,n⟩) (A:App w wA 54 13 (.slice ab B.length cb) (.slice aA (B.length+1) cA) (B.map encR++[encR x])) (hx:At w xb 54 RA) (hxv:(Value.slice ab B.length cb).ownBlock≠some xb) (hxp:xb≠pb) :
  PlO w0 (wA.setCell ⟨pb,1,none⟩ (.slice aA (B.length+1) cA)) pb vc (.slice aA (B.length+1) cA) ⟨K,B++[x],n⟩/\At wA xb 54 RA/\At wA pb 60 #[vc,.slice ab B.length cb,.int .i64 n]/\At (wA.setCell ⟨pb,1,none⟩ (.slice aA (B.length+1) cA)) xb 54 RA:=by
 have hvp:(Value.slice ab B.length cb).ownBlock≠some pb:=h.rb.ne (g:=0) h.is (by decide)
 have hvc:∀ g,vc.ownBlock=some g->(Value.slice ab B.length cb).ownBlock≠some g:=fun g e e2=>by
  obtain⟨cur,hc⟩:=h.rc.blkAt e
  obtain⟨cur',hc'⟩:=h.rb.blkAt e2
  rw[hc] at hc';simp at hc'
 have hk:∀ b,b<w.heap.size->(Value.slice ab B.length cb).ownBlock≠some b->wA.heap[b]?=w.heap[b]?:=fun b hl hn=>A.grow.block b hl (fun e=>hn e.symm)
 have hs:∀ b,b≠pb->(wA.setCell ⟨pb,1,none⟩ (.slice aA (B.length+1) cA)).heap[b]?=wA.heap[b]?:=fun b hb=>Below.heap_setCell wA _ _ b hb
 have hnp:∀ b,(Value.slice aA (B.length+1) cA).ownBlock=some b->b≠pb:=fun b e=>by
  rcases A.own with e2 |e2
  ·intro e3;subst e3;exact hvp (e2.symm.trans e)
  ·rw[e2] at e;cases e;have:=h.is.lt;omega
 have hpA:At wA pb 60 #[vc,.slice ab B.length cb,.int .i64 n]:=h.is.keep (hk pb h.is.lt hvp)
 have hxA:At wA xb 54 RA:=hx.keep (hk xb hx.lt hxv)
 refine⟨⟨hpA.set 1 _,?_,?_,?_,h.pbo,h.co,fun g e=>?_⟩,hxA,hpA,hxA.keep (hs xb hxp)⟩
 ·exact h.rc.keep fun b e=>(hs b (fun e2=>h.rc.ne (g:=0) h.is (by decide) (e2 ▸ e))).trans (hk b (h.rc.lt e) (hvc b e))
 ·rw[List.map_append,List.map_singleton]
  exact A.row.keep fun b e=>hs b (hnp b e)
 ·have b1:Below w0.heap.size w0 wA:=h.bel.trans (A.bel (fun g e=>h.bo g e) h.bel.size)
  exact b1.setCell (p:=⟨pb,1,none⟩) h.pbo _
 ·rcases A.own with e2 |e2
  ·exact h.bo g (e2.symm.trans e)
  ·rw[e2] at e;cases e;exact h.bel.size
set_option maxHeartbeats 4000000 in
theorem note_turn (h:PlO w0 w pb vc vb p) (hn:p.B.length<=80000) (h1:3<=r.kd) (h2:r.kd<=6):Calls Tryz.prog 25 #[.pointer (some ⟨pb,0,none⟩),.agg (r.A I T)] w fun e w'=>NtO w0 pb (noteP p r) e w':=by
 have e9:noteP p r=⟨p.K,p.B++[bkO r],p.n⟩:=if_pos ⟨h1,h2⟩
 rw[e9]
 obtain⟨K0,B,n⟩:=p
 dsimp only at h hn ⊢
 obtain⟨ab,cb,rfl,hcb⟩:=h.rb.sl
 rw[List.length_map] at hcb h
 have H:Hid (PlO w0 w pb vc (.slice ab B.length cb) ⟨K0,B,n⟩):=h
 clear h e9 hcb
 obtain⟨kd,tx,pv,pg,ac,ky,ol,nw,nx,ep,nd⟩:=r
 dsimp only at h1 h2
 unfold Rc.A
 by_cases k6:kd=6
 ·subst k6
  have eb:bkO ⟨6,tx,pv,pg,ac,ky,ol,nw,nx,ep,nd⟩=⟨ac,tx,ky,nw⟩:=rfl
  rw[eb]
  clear eb
  go_enter Tryz.func25,Tryz.ntmps25
  go_wp2_with (refine wpList_box_at (A:=#[.int .i64 6,.int .i64 tx,.int .i64 pv,.int .i64 pg,.int .i64 ac,.string ky,.string ol,.string nw,.int .i64 nx,I,T,.int .i64 ep,.int .i64 nd]) _ rfl _ rfl rfl ?_;intro w1 b1 n1;have N1:Hid (New w w1 b1 54 #[.int .i64 6,.int .i64 tx,.int .i64 pv,.int .i64 pg,.int .i64 ac,.string ky,.string ol,.string nw,.int .i64 nx,I,T,.int .i64 ep,.int .i64 nd]):=n1;clear n1;have k0:w1.cell? ⟨b1,0,none⟩=some (.int .i64 6):=N1.out.is.c 0;have k4:w1.cell? ⟨b1,4,none⟩=some (.int .i64 ac):=N1.out.is.c 4)
  have HNX:Hid ((Value.slice ab B.length cb).ownBlock≠some b1/\b1≠pb):=⟨fun e=>(by have:=H.out.rb.lt e;have:=N1.out.eq;omega),fun e=>(by have:=H.out.is.lt;have:=N1.out.eq;omega)⟩
  have H1:Hid (PlO w0 w1 pb vc (.slice ab B.length cb) ⟨K0,B,n⟩):=H.out.below N1.out.bel
  clear k0 k4 H
  have KS:Hid (∀ wx,Below w1.heap.size w1 wx->wx.cell? ⟨b1,1,none⟩=some (.int .i64 tx)/\wx.cell? ⟨b1,5,none⟩=some (.string ky)/\wx.cell? ⟨b1,7,none⟩=some (.string nw)):=fun wx hb=>⟨(N1.out.is.bel hb).c 1,(N1.out.is.bel hb).c 5,(N1.out.is.bel hb).c 7⟩
  have PB:Hid (∀ wx,Below w1.heap.size w1 wx->PlO w0 wx pb vc (.slice ab B.length cb) ⟨K0,B,n⟩/\wx.cell? ⟨pb,1,none⟩=some (.slice ab B.length cb)):=fun wx hb=>⟨H1.out.below hb,(H1.out.is.bel hb).c 1⟩
  have D7:Hid (Below w1.heap.size w1 w1.drew):=(Below.refl _ _).drew
  have HBl:Hid ((B.map encR).length=B.length/\(B.map encR).length<=90000):=⟨List.length_map ..,by rw[List.length_map];omega⟩
  refine wp_region_held_drew (S:=fun W:World=>W.cell? ⟨b1,1,none⟩=some (.int .i64 tx)/\W.cell? ⟨b1,5,none⟩=some (.string ky)/\W.cell? ⟨b1,7,none⟩=some (.string nw)) (by kernel_rfl) (KS.out _ D7.out) (fun hHeld=>?_)
  refine wpAnyH_take (i:=0) (oi:=_) (v:=?_) rfl (by kernel_rfl) (by kernel_rfl) (by kernel_rfl) (fun _ _ _ h=>h) (Or.inl ⟨by rfl,?_⟩) hHeld ?_
  rotate_left
  ·(intro w hSw;(try dsimp only at hSw);go_simp;(try with_reducible rfl))
  try simp only[Act.put,List.setIfInBounds_toArray,List.set_cons_zero,List.set_cons_succ,List.getElem_toArray,List.getElem_cons_succ,List.getElem_cons_zero]
  refine wpAnyH_take (i:=1) (oi:=_) (v:=?_) rfl (by kernel_rfl) (by kernel_rfl) (by kernel_rfl) (fun _ _ _ h=>h) (Or.inl ⟨by rfl,?_⟩) hHeld ?_
  rotate_left
  ·(intro w hSw;(try dsimp only at hSw);go_simp;(try with_reducible rfl))
  try simp only[Act.put,List.setIfInBounds_toArray,List.set_cons_zero,List.set_cons_succ,List.getElem_toArray,List.getElem_cons_succ,List.getElem_cons_zero]
  refine wpAnyH_take (i:=2) (oi:=_) (v:=?_) rfl (by kernel_rfl) (by kernel_rfl) (by kernel_rfl) (fun _ _ _ h=>h) (Or.inl ⟨by rfl,?_⟩) hHeld ?_
  rotate_left
  ·(intro w hSw;(try dsimp only at hSw);go_simp;(try with_reducible rfl))
  try simp only[Act.put,List.setIfInBounds_toArray,List.set_cons_zero,List.set_cons_succ,List.getElem_toArray,List.getElem_cons_succ,List.getElem_cons_zero]
  refine wpAnyH_take (i:=3) (oi:=_) (v:=?_) rfl (by kernel_rfl) (by kernel_rfl) (by kernel_rfl) (fun _ _ _ h=>h) (Or.inl ⟨by rfl,?_⟩) hHeld ?_
  rotate_left
  ·(intro w hSw;(try dsimp only at hSw);go_simp;(try with_reducible rfl))
  try simp only[Act.put,List.setIfInBounds_toArray,List.set_cons_zero,List.set_cons_succ,List.getElem_toArray,List.getElem_cons_succ,List.getElem_cons_zero]
  refine wpAnyH_take (i:=5) (oi:=_) (v:=?_) rfl (by kernel_rfl) (by kernel_rfl) (by kernel_rfl) (fun _ _ _ h=>h) (Or.inl ⟨by rfl,?_⟩) hHeld ?_
  rotate_left
  ·(intro w hSw;(try dsimp only at hSw);go_simp;(try with_reducible rfl))
  try simp only[Act.put,List.setIfInBounds_toArray,List.set_cons_zero,List.set_cons_succ,List.getElem_toArray,List.getElem_cons_succ,List.getElem_cons_zero]
  refine wpAnyH_take (i:=6) (oi:=_) (v:=?_) rfl (by kernel_rfl) (by kernel_rfl) (by kernel_rfl) (fun _ _ _ h=>h) (Or.inl ⟨by rfl,?_⟩) hHeld ?_
  rotate_left
  ·(intro w hSw;(try dsimp only at hSw);go_simp;(try with_reducible rfl))
  try simp only[Act.put,List.setIfInBounds_toArray,List.set_cons_zero,List.set_cons_succ,List.getElem_toArray,List.getElem_cons_succ,List.getElem_cons_zero]
  refine wpAnyH_take (i:=7) (oi:=_) (v:=?_) rfl (by kernel_rfl) (by kernel_rfl) (by kernel_rfl) (fun _ _ _ h=>h) (Or.inl ⟨by rfl,?_⟩) hHeld ?_
  rotate_left
  ·(intro w hSw;(try dsimp only at hSw);go_simp;(try with_reducible rfl))
  try simp only[Act.put,List.setIfInBounds_toArray,List.set_cons_zero,List.set_cons_succ,List.getElem_toArray,List.getElem_cons_succ,List.getElem_cons_zero]
  refine wpAnyH_take (i:=8) (oi:=_) (v:=?_) rfl (by kernel_rfl) (by kernel_rfl) (by kernel_rfl) (fun _ _ _ h=>h) (Or.inl ⟨by rfl,?_⟩) hHeld ?_
  rotate_left
  ·(intro w hSw;(try dsimp only at hSw);go_simp;(try with_reducible rfl))
  try simp only[Act.put,List.setIfInBounds_toArray,List.set_cons_zero,List.set_cons_succ,List.getElem_toArray,List.getElem_cons_succ,List.getElem_cons_zero]
  refine wpAnyH_take (i:=9) (oi:=_) (v:=?_) rfl (by kernel_rfl) (by kernel_rfl) (by kernel_rfl) (fun _ _ _ h=>h) (Or.inl ⟨by rfl,?_⟩) hHeld ?_
  rotate_left
  ·(intro w hSw;(try dsimp only at hSw);go_simp;(try with_reducible rfl))
  try simp only[Act.put,List.setIfInBounds_toArray,List.set_cons_zero,List.set_cons_succ,List.getElem_toArray,List.getElem_cons_succ,List.getElem_cons_zero]
  refine wpAnyH_take (i:=10) (oi:=_) (v:=?_) rfl (by kernel_rfl) (by kernel_rfl) (by kernel_rfl) (fun _ _ _ h=>h) (Or.inl ⟨by rfl,?_⟩) hHeld ?_
  rotate_left
  ·(intro w hSw;(try dsimp only at hSw);go_simp;(try with_reducible rfl))
  try simp only[Act.put,List.setIfInBounds_toArray,List.set_cons_zero,List.set_cons_succ,List.getElem_toArray,List.getElem_cons_succ,List.getElem_cons_zero]
  refine wpAnyH_take (i:=11) (oi:=_) (v:=?_) rfl (by kernel_rfl) (by kernel_rfl) (by kernel_rfl) (fun _ _ _ h=>h) (Or.inl ⟨by rfl,?_⟩) hHeld ?_
  rotate_left
  ·(intro w hSw;(try dsimp only at hSw);go_simp;(try with_reducible rfl))
  try simp only[Act.put,List.setIfInBounds_toArray,List.set_cons_zero,List.set_cons_succ,List.getElem_toArray,List.getElem_cons_succ,List.getElem_cons_zero]
  refine wpAnyH_take (i:=12) (oi:=_) (v:=?_) rfl (by kernel_rfl) (by kernel_rfl) (by kernel_rfl) (fun _ _ _ h=>h) (Or.inl ⟨by rfl,?_⟩) hHeld ?_
  rotate_left
  ·(intro w hSw;(try dsimp only at hSw);go_simp;(try with_reducible rfl))
  try simp only[Act.put,List.setIfInBounds_toArray,List.set_cons_zero,List.set_cons_succ,List.getElem_toArray,List.getElem_cons_succ,List.getElem_cons_zero]
  refine wpAnyH_ready (rs:=[4,13]) (by kernel_rfl) (by simp) ?_
  refine AllReadyH.cons (o:=_) rfl (fun K hK=>?_) (AllReadyH.cons (o:=_) rfl (fun K hK=>?_) AllReadyH.nil)
  rw[if_pos (by rfl)]
  refine wp_load1 (v:=.slice ab B.length cb) _ (.tmp 26) rfl rfl (load_sr (PB.out _ D7.out).2) ?_
  refine hK.out _ _ (KS.out _ D7.out) (fun hHeld=>?_)
  clear hK K
  try simp only[Act.put,List.setIfInBounds_toArray,List.set_cons_zero,List.set_cons_succ,List.getElem_toArray,List.getElem_cons_succ,List.getElem_cons_zero]
  refine wpAnyH_ready (rs:=[13]) (by kernel_rfl) (by simp) ?_
  refine AllReadyH.cons (o:=_) rfl (fun K hK=>?_) AllReadyH.nil
  rw[if_pos (by rfl)]
  refine wp_build1 _ (.tmp 35) rfl rfl (bR1 ⟨ac,tx,ky,nw⟩) ?_
  intro wB bB NB
  have DB:Hid (Below w1.heap.size w1 wB):=thn D7.out NB.bel
  refine hK.out _ _ (KS.out _ DB.out) (fun hHeld=>?_)
  clear hK K
  try simp only[Act.put,List.setIfInBounds_toArray,List.set_cons_zero,List.set_cons_succ,List.getElem_toArray,List.getElem_cons_succ,List.getElem_cons_zero]
  rotate_left
  rw[if_pos (by rfl)]
  refine wp_build1 _ (.tmp 35) rfl rfl (bR1 ⟨ac,tx,ky,nw⟩) ?_
  intro wB bB NB
  have DB:Hid (Below w1.heap.size w1 wB):=thn D7.out NB.bel
  refine hK.out _ _ (KS.out _ DB.out) (fun hHeld=>?_)
  clear hK K
  try simp only[Act.put,List.setIfInBounds_toArray,List.set_cons_zero,List.set_cons_succ,List.getElem_toArray,List.getElem_cons_succ,List.getElem_cons_zero]
  refine wpAnyH_ready (rs:=[4]) (by kernel_rfl) (by simp) ?_
  refine AllReadyH.cons (o:=_) rfl (fun K hK=>?_) AllReadyH.nil
  rw[if_pos (by rfl)]
  refine wp_load1 (v:=.slice ab B.length cb) _ (.tmp 26) rfl rfl (load_sr (PB.out _ DB.out).2) ?_
  refine hK.out _ _ (KS.out _ DB.out) (fun hHeld=>?_)
  clear hK K
  try simp only[Act.put,List.setIfInBounds_toArray,List.set_cons_zero,List.set_cons_succ,List.getElem_toArray,List.getElem_cons_succ,List.getElem_cons_zero]
  all_goals
   refine wpAnyH_ready (rs:=[14]) (by kernel_rfl) (by simp) ?_
   refine AllReadyH.cons (o:=_) rfl (fun K hK=>?_) AllReadyH.nil
   refine step_push elR (L:=B.map encR) (v:=.slice ab B.length cb) (A:=(recB ⟨ac,tx,ky,nw⟩).A (.slice none 0 0) (.slice none 0 0)) (c:=1) (b:=bB) rfl (.tmp 27) (.tmp 36) rfl rfl (PB.out _ DB.out).1.rb rfl NB.is rfl (oneR _) HBl.out.2 ?_
   intro aA cA wA AA
   rw[HBl.out.1] at AA ⊢
   obtain⟨PA,XA⟩:=(PB.out _ DB.out).1.pushB (xb:=b1) (x:=⟨ac,tx,ky,nw⟩) AA (N1.out.is.bel DB.out) HNX.out.1 HNX.out.2
   have PA:Hid (PlO w0 (wA.setCell ⟨pb,1,none⟩ (.slice aA (B.length+1) cA)) pb vc (.slice aA (B.length+1) cA) ⟨K0,B++[⟨ac,tx,ky,nw⟩],n⟩):=PA
   have XA:Hid (At wA b1 54 #[.int .i64 6,.int .i64 tx,.int .i64 pv,.int .i64 pg,.int .i64 ac,.string ky,.string ol,.string nw,.int .i64 nx,I,T,.int .i64 ep,.int .i64 nd]/\At wA pb 60 #[vc,.slice ab B.length cb,.int .i64 n]/\At (wA.setCell ⟨pb,1,none⟩ (.slice aA (B.length+1) cA)) b1 54 #[.int .i64 6,.int .i64 tx,.int .i64 pv,.int .i64 pg,.int .i64 ac,.string ky,.string ol,.string nw,.int .i64 nx,I,T,.int .i64 ep,.int .i64 nd]):=XA
   refine hK.out _ _ ⟨XA.out.1.c 1,XA.out.1.c 5,XA.out.1.c 7⟩ (fun hHeld=>?_)
   clear hK K
   try simp only[Act.put,List.setIfInBounds_toArray,List.set_cons_zero,List.set_cons_succ,List.getElem_toArray,List.getElem_cons_succ,List.getElem_cons_zero]
   refine wpAnyH_take (i:=15) (oi:=_) (v:=?_) rfl (by kernel_rfl) (by kernel_rfl) (by kernel_rfl) (fun _ _ _ h=>h) (Or.inl ⟨by rfl,?_⟩) hHeld ?_
   rotate_left
   ·(intro w hSw;(try dsimp only at hSw);go_simp;(try with_reducible rfl))
   try simp only[Act.put,List.setIfInBounds_toArray,List.set_cons_zero,List.set_cons_succ,List.getElem_toArray,List.getElem_cons_succ,List.getElem_cons_zero]
   refine wpAnyH_take (i:=16) (oi:=_) (v:=?_) rfl (by kernel_rfl) (by kernel_rfl) (by kernel_rfl) (fun _ _ _ h=>h) (Or.inl ⟨by rfl,?_⟩) hHeld ?_
   rotate_left
   ·(intro w hSw;(try dsimp only at hSw);go_simp;(try with_reducible rfl))
   try simp only[Act.put,List.setIfInBounds_toArray,List.set_cons_zero,List.set_cons_succ,List.getElem_toArray,List.getElem_cons_succ,List.getElem_cons_zero]
   refine wpAnyH_ready (rs:=[17]) (by kernel_rfl) (by simp) ?_
   refine AllReadyH.cons (o:=_) rfl (fun K hK=>?_) AllReadyH.nil
   rw[if_pos (by rfl)]
   refine wp_set1 (v:=.slice aA (B.length+1) cA) _ 43 (.tmp 39) (.tmp 37) rfl rfl rfl (XA.out.2.1.c 1) (XA.out.2.1.f 1) rfl i1R ?_
   intro wC eC
   rw[← eC] at PA XA
   refine hK.out _ _ ⟨XA.out.2.2.c 1,XA.out.2.2.c 5,XA.out.2.2.c 7⟩ (fun hHeld=>?_)
   clear hK K eC
   try simp only[Act.put,List.setIfInBounds_toArray,List.set_cons_zero,List.set_cons_succ,List.getElem_toArray,List.getElem_cons_succ,List.getElem_cons_zero]
   refine wpAnyH_done (by kernel_rfl) ?_ _
   go_wp2
   refine bodyPost_ret (results_none rfl _ _ _) rfl ?_
   exact⟨rfl,_,_,PA.out⟩
 ·have k1:(kd==6)=false:=by simp;omega
  have eb:bkO ⟨kd,tx,pv,pg,ac,ky,ol,nw,nx,ep,nd⟩=⟨kd,tx,ky,nw⟩:=by unfold bkO;dsimp only;rw[if_neg k6]
  rw[eb]
  clear eb
  go_enter Tryz.func25,Tryz.ntmps25
  go_wp2_with (refine wpList_box_at (A:=#[.int .i64 kd,.int .i64 tx,.int .i64 pv,.int .i64 pg,.int .i64 ac,.string ky,.string ol,.string nw,.int .i64 nx,I,T,.int .i64 ep,.int .i64 nd]) _ rfl _ rfl rfl ?_;intro w1 b1 n1;have N1:Hid (New w w1 b1 54 #[.int .i64 kd,.int .i64 tx,.int .i64 pv,.int .i64 pg,.int .i64 ac,.string ky,.string ol,.string nw,.int .i64 nx,I,T,.int .i64 ep,.int .i64 nd]):=n1;clear n1;have k0:w1.cell? ⟨b1,0,none⟩=some (.int .i64 kd):=N1.out.is.c 0;have k4:w1.cell? ⟨b1,4,none⟩=some (.int .i64 ac):=N1.out.is.c 4)
  have HNX:Hid ((Value.slice ab B.length cb).ownBlock≠some b1/\b1≠pb):=⟨fun e=>(by have:=H.out.rb.lt e;have:=N1.out.eq;omega),fun e=>(by have:=H.out.is.lt;have:=N1.out.eq;omega)⟩
  have H1:Hid (PlO w0 w1 pb vc (.slice ab B.length cb) ⟨K0,B,n⟩):=H.out.below N1.out.bel
  clear k0 k4 H
  have KS:Hid (∀ wx,Below w1.heap.size w1 wx->wx.cell? ⟨b1,1,none⟩=some (.int .i64 tx)/\wx.cell? ⟨b1,5,none⟩=some (.string ky)/\wx.cell? ⟨b1,7,none⟩=some (.string nw)):=fun wx hb=>⟨(N1.out.is.bel hb).c 1,(N1.out.is.bel hb).c 5,(N1.out.is.bel hb).c 7⟩
  have PB:Hid (∀ wx,Below w1.heap.size w1 wx->PlO w0 wx pb vc (.slice ab B.length cb) ⟨K0,B,n⟩/\wx.cell? ⟨pb,1,none⟩=some (.slice ab B.length cb)):=fun wx hb=>⟨H1.out.below hb,(H1.out.is.bel hb).c 1⟩
  have D7:Hid (Below w1.heap.size w1 w1.drew):=(Below.refl _ _).drew
  have HBl:Hid ((B.map encR).length=B.length/\(B.map encR).length<=90000):=⟨List.length_map ..,by rw[List.length_map];omega⟩
  refine wp_region_held_drew (S:=fun W:World=>W.cell? ⟨b1,1,none⟩=some (.int .i64 tx)/\W.cell? ⟨b1,5,none⟩=some (.string ky)/\W.cell? ⟨b1,7,none⟩=some (.string nw)) (by kernel_rfl) (KS.out _ D7.out) (fun hHeld=>?_)
  refine wpAnyH_take (i:=0) (oi:=_) (v:=?_) rfl (by kernel_rfl) (by kernel_rfl) (by kernel_rfl) (fun _ _ _ h=>h) (Or.inl ⟨by rfl,?_⟩) hHeld ?_
  rotate_left
  ·(intro w hSw;(try dsimp only at hSw);go_simp;(try with_reducible rfl))
  try simp only[Act.put,List.setIfInBounds_toArray,List.set_cons_zero,List.set_cons_succ,List.getElem_toArray,List.getElem_cons_succ,List.getElem_cons_zero]
  refine wpAnyH_take (i:=1) (oi:=_) (v:=?_) rfl (by kernel_rfl) (by kernel_rfl) (by kernel_rfl) (fun _ _ _ h=>h) (Or.inl ⟨by rfl,?_⟩) hHeld ?_
  rotate_left
  ·(intro w hSw;(try dsimp only at hSw);go_simp;(try with_reducible rfl))
  try simp only[Act.put,List.setIfInBounds_toArray,List.set_cons_zero,List.set_cons_succ,List.getElem_toArray,List.getElem_cons_succ,List.getElem_cons_zero]
  refine wpAnyH_take (i:=2) (oi:=_) (v:=?_) rfl (by kernel_rfl) (by kernel_rfl) (by kernel_rfl) (fun _ _ _ h=>h) (Or.inl ⟨by rfl,?_⟩) hHeld ?_
  rotate_left
  ·(intro w hSw;(try dsimp only at hSw);go_simp;(try with_reducible rfl))
  try simp only[Act.put,List.setIfInBounds_toArray,List.set_cons_zero,List.set_cons_succ,List.getElem_toArray,List.getElem_cons_succ,List.getElem_cons_zero]
  refine wpAnyH_take (i:=3) (oi:=_) (v:=?_) rfl (by kernel_rfl) (by kernel_rfl) (by kernel_rfl) (fun _ _ _ h=>h) (Or.inl ⟨by rfl,?_⟩) hHeld ?_
  rotate_left
  ·(intro w hSw;(try dsimp only at hSw);go_simp;(try with_reducible rfl))
  try simp only[Act.put,List.setIfInBounds_toArray,List.set_cons_zero,List.set_cons_succ,List.getElem_toArray,List.getElem_cons_succ,List.getElem_cons_zero]
  refine wpAnyH_take (i:=5) (oi:=_) (v:=?_) rfl (by kernel_rfl) (by kernel_rfl) (by kernel_rfl) (fun _ _ _ h=>h) (Or.inl ⟨by rfl,?_⟩) hHeld ?_
  rotate_left
  ·(intro w hSw;(try dsimp only at hSw);go_simp;(try with_reducible rfl))
  try simp only[Act.put,List.setIfInBounds_toArray,List.set_cons_zero,List.set_cons_succ,List.getElem_toArray,List.getElem_cons_succ,List.getElem_cons_zero]
  refine wpAnyH_take (i:=6) (oi:=_) (v:=?_) rfl (by kernel_rfl) (by kernel_rfl) (by kernel_rfl) (fun _ _ _ h=>h) (Or.inl ⟨by rfl,?_⟩) hHeld ?_
  rotate_left
  ·(intro w hSw;(try dsimp only at hSw);go_simp;(try with_reducible rfl))
  try simp only[Act.put,List.setIfInBounds_toArray,List.set_cons_zero,List.set_cons_succ,List.getElem_toArray,List.getElem_cons_succ,List.getElem_cons_zero]
  refine wpAnyH_take (i:=7) (oi:=_) (v:=?_) rfl (by kernel_rfl) (by kernel_rfl) (by kernel_rfl) (fun _ _ _ h=>h) (Or.inl ⟨by rfl,?_⟩) hHeld ?_
  rotate_left
  ·(intro w hSw;(try dsimp only at hSw);go_simp;(try with_reducible rfl))
  try simp only[Act.put,List.setIfInBounds_toArray,List.set_cons_zero,List.set_cons_succ,List.getElem_toArray,List.getElem_cons_succ,List.getElem_cons_zero]
  refine wpAnyH_take (i:=8) (oi:=_) (v:=?_) rfl (by kernel_rfl) (by kernel_rfl) (by kernel_rfl) (fun _ _ _ h=>h) (Or.inl ⟨by rfl,?_⟩) hHeld ?_
  rotate_left
  ·(intro w hSw;(try dsimp only at hSw);go_simp;(try with_reducible rfl))
  try simp only[Act.put,List.setIfInBounds_toArray,List.set_cons_zero,List.set_cons_succ,List.getElem_toArray,List.getElem_cons_succ,List.getElem_cons_zero]
  refine wpAnyH_take (i:=9) (oi:=_) (v:=?_) rfl (by kernel_rfl) (by kernel_rfl) (by kernel_rfl) (fun _ _ _ h=>h) (Or.inl ⟨by rfl,?_⟩) hHeld ?_
  rotate_left
  ·(intro w hSw;(try dsimp only at hSw);go_simp;(try with_reducible rfl))
  try simp only[Act.put,List.setIfInBounds_toArray,List.set_cons_zero,List.set_cons_succ,List.getElem_toArray,List.getElem_cons_succ,List.getElem_cons_zero]
  refine wpAnyH_take (i:=10) (oi:=_) (v:=?_) rfl (by kernel_rfl) (by kernel_rfl) (by kernel_rfl) (fun _ _ _ h=>h) (Or.inl ⟨by rfl,?_⟩) hHeld ?_
  rotate_left
  ·(intro w hSw;(try dsimp only at hSw);go_simp;(try with_reducible rfl))
  try simp only[Act.put,List.setIfInBounds_toArray,List.set_cons_zero,List.set_cons_succ,List.getElem_toArray,List.getElem_cons_succ,List.getElem_cons_zero]
  refine wpAnyH_take (i:=11) (oi:=_) (v:=?_) rfl (by kernel_rfl) (by kernel_rfl) (by kernel_rfl) (fun _ _ _ h=>h) (Or.inl ⟨by rfl,?_⟩) hHeld ?_
  rotate_left
  ·(intro w hSw;(try dsimp only at hSw);go_simp;(try with_reducible rfl))
  try simp only[Act.put,List.setIfInBounds_toArray,List.set_cons_zero,List.set_cons_succ,List.getElem_toArray,List.getElem_cons_succ,List.getElem_cons_zero]
  refine wpAnyH_take (i:=12) (oi:=_) (v:=?_) rfl (by kernel_rfl) (by kernel_rfl) (by kernel_rfl) (fun _ _ _ h=>h) (Or.inl ⟨by rfl,?_⟩) hHeld ?_
  rotate_left
  ·(intro w hSw;(try dsimp only at hSw);go_simp;(try with_reducible rfl))
  try simp only[Act.put,List.setIfInBounds_toArray,List.set_cons_zero,List.set_cons_succ,List.getElem_toArray,List.getElem_cons_succ,List.getElem_cons_zero]
  refine wpAnyH_ready (rs:=[4,13]) (by kernel_rfl) (by simp) ?_
  refine AllReadyH.cons (o:=_) rfl (fun K hK=>?_) (AllReadyH.cons (o:=_) rfl (fun K hK=>?_) AllReadyH.nil)
  rw[if_pos (by rfl)]
  refine wp_load1 (v:=.slice ab B.length cb) _ (.tmp 26) rfl rfl (load_sr (PB.out _ D7.out).2) ?_
  refine hK.out _ _ (KS.out _ D7.out) (fun hHeld=>?_)
  clear hK K
  try simp only[Act.put,List.setIfInBounds_toArray,List.set_cons_zero,List.set_cons_succ,List.getElem_toArray,List.getElem_cons_succ,List.getElem_cons_zero]
  refine wpAnyH_ready (rs:=[13]) (by kernel_rfl) (by simp) ?_
  refine AllReadyH.cons (o:=_) rfl (fun K hK=>?_) AllReadyH.nil
  rw[if_pos (by rfl)]
  refine wp_build1 _ (.tmp 35) rfl rfl (bR1 ⟨kd,tx,ky,nw⟩) ?_
  intro wB bB NB
  have DB:Hid (Below w1.heap.size w1 wB):=thn D7.out NB.bel
  refine hK.out _ _ (KS.out _ DB.out) (fun hHeld=>?_)
  clear hK K
  try simp only[Act.put,List.setIfInBounds_toArray,List.set_cons_zero,List.set_cons_succ,List.getElem_toArray,List.getElem_cons_succ,List.getElem_cons_zero]
  rotate_left
  rw[if_pos (by rfl)]
  refine wp_build1 _ (.tmp 35) rfl rfl (bR1 ⟨kd,tx,ky,nw⟩) ?_
  intro wB bB NB
  have DB:Hid (Below w1.heap.size w1 wB):=thn D7.out NB.bel
  refine hK.out _ _ (KS.out _ DB.out) (fun hHeld=>?_)
  clear hK K
  try simp only[Act.put,List.setIfInBounds_toArray,List.set_cons_zero,List.set_cons_succ,List.getElem_toArray,List.getElem_cons_succ,List.getElem_cons_zero]
  refine wpAnyH_ready (rs:=[4]) (by kernel_rfl) (by simp) ?_
  refine AllReadyH.cons (o:=_) rfl (fun K hK=>?_) AllReadyH.nil
  rw[if_pos (by rfl)]
  refine wp_load1 (v:=.slice ab B.length cb) _ (.tmp 26) rfl rfl (load_sr (PB.out _ DB.out).2) ?_
  refine hK.out _ _ (KS.out _ DB.out) (fun hHeld=>?_)
  clear hK K
  try simp only[Act.put,List.setIfInBounds_toArray,List.set_cons_zero,List.set_cons_succ,List.getElem_toArray,List.getElem_cons_succ,List.getElem_cons_zero]
  all_goals
   refine wpAnyH_ready (rs:=[14]) (by kernel_rfl) (by simp) ?_
   refine AllReadyH.cons (o:=_) rfl (fun K hK=>?_) AllReadyH.nil
   refine step_push elR (L:=B.map encR) (v:=.slice ab B.length cb) (A:=(recB ⟨kd,tx,ky,nw⟩).A (.slice none 0 0) (.slice none 0 0)) (c:=1) (b:=bB) rfl (.tmp 27) (.tmp 36) rfl rfl (PB.out _ DB.out).1.rb rfl NB.is rfl (oneR _) HBl.out.2 ?_
   intro aA cA wA AA
   rw[HBl.out.1] at AA ⊢
   obtain⟨PA,XA⟩:=(PB.out _ DB.out).1.pushB (xb:=b1) (x:=⟨kd,tx,ky,nw⟩) AA (N1.out.is.bel DB.out) HNX.out.1 HNX.out.2
   have PA:Hid (PlO w0 (wA.setCell ⟨pb,1,none⟩ (.slice aA (B.length+1) cA)) pb vc (.slice aA (B.length+1) cA) ⟨K0,B++[⟨kd,tx,ky,nw⟩],n⟩):=PA
   have XA:Hid (At wA b1 54 #[.int .i64 kd,.int .i64 tx,.int .i64 pv,.int .i64 pg,.int .i64 ac,.string ky,.string ol,.string nw,.int .i64 nx,I,T,.int .i64 ep,.int .i64 nd]/\At wA pb 60 #[vc,.slice ab B.length cb,.int .i64 n]/\At (wA.setCell ⟨pb,1,none⟩ (.slice aA (B.length+1) cA)) b1 54 #[.int .i64 kd,.int .i64 tx,.int .i64 pv,.int .i64 pg,.int .i64 ac,.string ky,.string ol,.string nw,.int .i64 nx,I,T,.int .i64 ep,.int .i64 nd]):=XA
   refine hK.out _ _ ⟨XA.out.1.c 1,XA.out.1.c 5,XA.out.1.c 7⟩ (fun hHeld=>?_)
   clear hK K
   try simp only[Act.put,List.setIfInBounds_toArray,List.set_cons_zero,List.set_cons_succ,List.getElem_toArray,List.getElem_cons_succ,List.getElem_cons_zero]
   refine wpAnyH_take (i:=15) (oi:=_) (v:=?_) rfl (by kernel_rfl) (by kernel_rfl) (by kernel_rfl) (fun _ _ _ h=>h) (Or.inl ⟨by rfl,?_⟩) hHeld ?_
   rotate_left
   ·(intro w hSw;(try dsimp only at hSw);go_simp;(try with_reducible rfl))
   try simp only[Act.put,List.setIfInBounds_toArray,List.set_cons_zero,List.set_cons_succ,List.getElem_toArray,List.getElem_cons_succ,List.getElem_cons_zero]
   refine wpAnyH_take (i:=16) (oi:=_) (v:=?_) rfl (by kernel_rfl) (by kernel_rfl) (by kernel_rfl) (fun _ _ _ h=>h) (Or.inl ⟨by rfl,?_⟩) hHeld ?_
   rotate_left
   ·(intro w hSw;(try dsimp only at hSw);go_simp;(try with_reducible rfl))
   try simp only[Act.put,List.setIfInBounds_toArray,List.set_cons_zero,List.set_cons_succ,List.getElem_toArray,List.getElem_cons_succ,List.getElem_cons_zero]
   refine wpAnyH_ready (rs:=[17]) (by kernel_rfl) (by simp) ?_
   refine AllReadyH.cons (o:=_) rfl (fun K hK=>?_) AllReadyH.nil
   rw[if_pos (by rfl)]
   refine wp_set1 (v:=.slice aA (B.length+1) cA) _ 43 (.tmp 39) (.tmp 37) rfl rfl rfl (XA.out.2.1.c 1) (XA.out.2.1.f 1) rfl i1R ?_
   intro wC eC
   rw[← eC] at PA XA
   refine hK.out _ _ ⟨XA.out.2.2.c 1,XA.out.2.2.c 5,XA.out.2.2.c 7⟩ (fun hHeld=>?_)
   clear hK K eC
   try simp only[Act.put,List.setIfInBounds_toArray,List.set_cons_zero,List.set_cons_succ,List.getElem_toArray,List.getElem_cons_succ,List.getElem_cons_zero]
   refine wpAnyH_done (by kernel_rfl) ?_ _
   go_wp2
   refine bodyPost_ret (results_none rfl _ _ _) rfl ?_
   exact⟨rfl,_,_,PA.out⟩
end
end Go.Proofs.YtkcpclmkbmeigaaGreat.Fd
