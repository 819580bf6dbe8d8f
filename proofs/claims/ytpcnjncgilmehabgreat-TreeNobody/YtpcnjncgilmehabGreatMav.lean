import Derived.Test.YtpcnjncgilmehabGreatMau
import Derived.Deep.RegionHeld3
set_option linter.unusedVariables false
set_option linter.unusedSimpArgs false
set_option maxRecDepth 100000
namespace Go.Proofs.YtpcnjncgilmehabGreat.Pg
open Go.RowKit
theorem CanPack.small {k l:Nat} {L:List Cl} (h:CanPack k l L):Small L:=by
 have h1:=three_le L
 have h2:=h.fit
 exact⟨by omega,h.ks,h.vs⟩
theorem CanPack.take {k l:Nat} {L:List Cl} (h:CanPack k l L) (n:Nat):CanPack k l (L.take n) :=
 ⟨h.hk,h.hl,h.kl,fun e=>by rw[h.free e];simp,fun c hc=>h.ks c (List.mem_of_mem_take hc),fun c hc=>h.vs c (List.mem_of_mem_take hc),List.Pairwise.sublist (List.take_sublist _ _) h.ris,Nat.le_trans (needs_take_le _ _) h.fit⟩
theorem CanPack.drop {k l:Nat} {L:List Cl} (h:CanPack k l L) (n:Nat):CanPack k l (L.drop n) :=
 ⟨h.hk,h.hl,h.kl,fun e=>by rw[h.free e];simp,fun c hc=>h.ks c (List.mem_of_mem_drop hc),fun c hc=>h.vs c (List.mem_of_mem_drop hc),List.Pairwise.sublist (List.drop_sublist _ _) h.ris,by have:=h.fit;have:=needs_split L n;omega⟩
set_option maxHeartbeats 1000000 in
theorem packed_any (w:World) (k l:Nat) {a:Option Addr} {L:List Cl} (cap:Nat) (hC:Cs w a L) (h:CanPack k l L):Calls Tryz.prog 169 #[.int .i64 (k:Int),.int .i64 (l:Int),.slice a L.length cap] w fun e w'=>e=.returned (pgV (packS k l L))/\Below w.heap.size w w':=by
 have h1:=h.hk
 have h2:=h.hl
 have hsm:=h.small
 have hln:=hsm.len
 have C1:Hid (∀ w,Calls Tryz.prog 152 #[.int .i64 (k:Int),.int .i64 (l:Int)] w fun e w'=>e=.returned (pgV (blankS k l))/\Below w.heap.size w w'):=fun w=>blank_any w k l (by omega) (by omega)
 have HP:Hid (∀ n,Packed k l (L.take n) (packS k l (L.take n))):=(fun n=>packed_all _ (h.take n):∀ n,Packed k l (L.take n) (packS k l (L.take n)))
 have HL:Hid ((packS k l L).length=224):=(packed_all L h).right.head.len
 have HQ:Hid (∀ n (hn:n<L.length) w b,Sh w b (packS k l (L.take n))->Calls Tryz.prog 180 #[.pointer (some ⟨b,0,none⟩),.int .i64 (n:Int),.agg #[.string L[n].k,.string L[n].v]] w fun e w'=>e=.returned (.tuple #[])/\Put w w' b (packS k l (L.take (n+1)))):=(fun n hn w b hS=>by
  have hp:=packed_all _ (h.take n)
  have e:L.take (n+1)=L.take n++[L[n]]:=List.take_succ_eq_append_getElem hn
  have hc:=h.take (n+1)
  rw[e] at hc ⊢
  have hcp:=hp.canPut hc
  have hcn:cnt (packS k l (L.take n))=n:=by rw[← cells_length,hp.cells,List.length_take];omega
  have:=put_any w hS (cnt (packS k l (L.take n))) L[n] (Nat.le_refl _) hp.right.head.en4 hcp.k hcp.v hcp.room
  rw[packS_snoc]
  rw[hcn] at this ⊢
  exact this:∀ n (hn:n<L.length) w b,Sh w b (packS k l (L.take n))->Calls Tryz.prog 180 #[.pointer (some ⟨b,0,none⟩),.int .i64 (n:Int),.agg #[.string L[n].k,.string L[n].v]] w fun e w'=>e=.returned (.tuple #[])/\Put w w' b (packS k l (L.take (n+1))))
 have H:Hid _:=h
 clear h
 go_enter Tryz.func169,Tryz.ntmps169
 go_wp2_with (first |(refine wpList_new_sh _ rfl rfl ?_;first |(have:=N1;intro w3 b3 N3) |(intro w1 b1 N1)) |(go_at_call 152;refine(C1.out _).mono ?_;rintro e w2 ⟨rfl,hb2⟩) |(refine wpList_put_sh _ rfl _ _ rfl rfl (t:=blankS k l) rfl N3.sh (blankS_length k l) ?_;intro w4 P4))
 have hb4:Below w.heap.size w w4:=opened (thn N1.below hb2) N3 P4
 have hne:b1≠b3:=by
  have:=N1.sh.lt
  have:=hb2.size
  have:=N3.le
  omega
 have hS1:Sh w4 b1 zs:=((N1.sh.below hb2).below N3.below).off P4.off hne
 have hb3:w.heap.size<=b3:=by
  have:=N1.below.size
  have:=hb2.size
  have:=N3.le
  omega
 go_loopw [15] (fun kv wr=>∃ i:Nat,kv=.int .i64 (i:Int)/\i<=L.length/\Sh wr b3 (packS k l (L.take i))/\Sh wr b1 zs/\Below w.heap.size w wr) (fun kv _=>L.length-(intOf kv).toNat)
 case atStart=>exact⟨0,rfl,Nat.zero_le _,by rw[List.take_zero];exact P4.sh,hS1,hb4⟩
 case round =>
  obtain⟨i,rfl,hi,hS,hZ,hbel⟩:=hrel
  by_cases hlt:i<L.length
  ·have hltI:(i:Int)<(L.length:Int):=by omega
   obtain⟨bb,off,rfl,hb,c0,c1⟩:=hC.at' hbel hlt
   have HP1:Hid _:=HQ.out i hlt
   have HS:Hid _:=hS
   have HZ:Hid _:=hZ
   clear hS hZ
   generalize L[i]=c at *
   go_wp2_with (go_at_call 180;refine(HP1.out _ _ (HS.out.alloc _)).mono ?_;rintro e w5 ⟨rfl,P5⟩)
   go_roundw
   case rel =>
    have z:=hbel.size
    exact⟨i+1,by go_num,by omega,P5.sh,(HZ.out.alloc _).off P5.off hne,(thnA hbel _).trans (P5.below hb3 (by simp;omega))⟩
   case measure=>simp[intOf];omega
  ·have hie:i=L.length:=by omega
   subst hie
   rw[List.take_length] at hS
   have hlt':¬ (L.length:Int)<(L.length:Int):=by omega
   go_wp2_with (first |(refine wpList_load_sh _ rfl _ rfl _ rfl _ hS ?_) |(refine wpList_put_sh _ rfl _ _ rfl rfl rfl hZ HL.out ?_;intro w5 P5))
   refine bodyPost_ret (results_cell_row rfl _ _ b1 158 _ (0,0) _ rfl P5.sh.blk row_sheet rfl (info_pg HL.out)) rfl ?_
   exact⟨rfl,hbel.trans (P5.below N1.le hbel.size)⟩
section
variable {w w':World}{b:Nat}{s:List UInt8}
set_option maxHeartbeats 1000000 in
theorem lay_any (w:World) (h:Sh w b s) (i:Nat) (c:Cl) (hl:CanLay s i c):Calls Tryz.prog 118 #[.pointer (some ⟨b,0,none⟩),.int .i64 (i:Int),.agg #[.string c.k,.string c.v]] w fun e w'=>e=.returned (.tuple #[])/\Put w w' b (layS s i c):=by
 have C1:Hid (∀ w,Sh w b s->Calls Tryz.prog 179 #[.pointer (some ⟨b,0,none⟩)] w fun e w'=>e=.returned (.int .i64 (en s))/\w'=w):=fun w h=>end_any w h
 have C2:Hid (∀ w,Sh w b s->Calls Tryz.prog 129 #[.pointer (some ⟨b,0,none⟩)] w fun e w'=>e=.returned (.int .i64 (cnt s))/\w'=w):=fun w h=>count_any w h
 have hk:=hl.k
 have hv:=hl.v
 have C3:Hid (∀ w,Calls Tryz.prog 79 #[.agg #[.string c.k,.string c.v]] w fun e w'=>e=.returned (.int .i64 (need c))/\Below w.heap.size w w'):=fun w=>Need_any w c (by omega) (by omega)
 have b2:cnt s<256:=g_lt s 2
 have b3:en s<256:=g_lt s 3
 have hnd:need c<=51:=by simp only[need];omega
 have H:Hid _:=h
 have hbl:=h.lt
 clear h
 by_cases ho:224<en s+cnt s+need c
 ·have hO:Hid (layS s i c=putS (packS (g s 0) (g s 1) (cells s)) i c):=(by rw[layS,if_pos ho]:layS s i c=putS (packS (g s 0) (g s 1) (cells s)) i c)
  have hp:=hl.put2
  have hpk:=hl.right.canPack
  have hcl:(cells s).length=cnt s:=cells_length s
  have C5:Hid (∀ w,Sh w b s->Calls Tryz.prog 165 #[.pointer (some ⟨b,0,none⟩)] w fun e w'=>e=.returned (.int .i64 (g s 0))/\w'=w):=fun w h=>kind_any w h
  have C6:Hid (∀ w,Sh w b s->Calls Tryz.prog 170 #[.pointer (some ⟨b,0,none⟩)] w fun e w'=>e=.returned (.int .i64 (g s 1))/\w'=w):=fun w h=>level_any w h
  have C7:Hid (∀ w,Sh w b s->Calls Tryz.prog 167 #[.pointer (some ⟨b,0,none⟩)] w fun e w'=>∃ a,e=.returned (.slice (some ⟨a,0,none⟩) (cnt s) (cnt s))/\Cs w' (some ⟨a,0,none⟩) (cells s)/\Below w.heap.size w w'):=fun w h=>cells_any w h hl.right
  have C8:Hid (∀ w a,Cs w a (cells s)->Calls Tryz.prog 169 #[.int .i64 (g s 0:Int),.int .i64 (g s 1:Int),.slice a (cnt s) (cnt s)] w fun e w'=>e=.returned (pgV (packS (g s 0) (g s 1) (cells s)))/\Below w.heap.size w w'):=fun w a hc=>by
   have:=packed_any w (g s 0) (g s 1) (cnt s) hc hpk
   rw[hcl] at this
   exact this
  have C4:Hid (∀ w,Sh w b (packS (g s 0) (g s 1) (cells s))->Calls Tryz.prog 180 #[.pointer (some ⟨b,0,none⟩),.int .i64 (i:Int),.agg #[.string c.k,.string c.v]] w fun e w'=>e=.returned (.tuple #[])/\Put w w' b (putS (packS (g s 0) (g s 1) (cells s)) i c)):=fun w h=>put_any w h i c hp.i hp.right.head.en4 hk hv hp.room
  have HPL:Hid _:=hp.right.head.len
  generalize need c=nd at *
  have ho':(224:Int)<(en s:Int)+(cnt s:Int)+(nd:Int):=by omega
  generalize putS (packS (g s 0) (g s 1) (cells s)) i c=T at *
  generalize packS (g s 0) (g s 1) (cells s)=PS at *
  generalize en s=e at *
  generalize cnt s=n at *
  generalize c.k=k at *
  generalize c.v=v at *
  generalize g s 0=k0 at *
  generalize g s 1=l0 at *
  have q1:IntKind.i64.wrap ((e:Int)+(n:Int))=(e:Int)+(n:Int):=IntWalk.i64_in _ (by omega)
  have q2:IntKind.i64.wrap ((e:Int)+(n:Int)+(nd:Int))=(e:Int)+(n:Int)+(nd:Int):=IntWalk.i64_in _ (by omega)
  have q3:decide ((224:Int)<(e:Int)+(n:Int)+(nd:Int))=true:=decide_eq_true ho'
  clear hp hpk hl ho
  go_enter Tryz.func118,Tryz.ntmps118
  go_wp2_with (refine wpList_box_cb _ rfl _ rfl rfl ?_;intro w0 b0 N0)
  have hS0:=H.out.below N0.below
  have d0:=N0.cb.c0
  have d1:=N0.cb.c1
  have keep0:∀ W,Below w0.drew.heap.size w0.drew W->W.cell? ⟨b0,0,none⟩=some (.string k)/\W.cell? ⟨b0,1,none⟩=some (.string v):=fun W hb=>⟨(hb.cell (by exact N0.cb.lt)).trans d0,(hb.cell (by exact N0.cb.lt)).trans d1⟩
  have KP:Hid _:=keep0
  clear keep0
  go_region_held3 (fun w'=>w'.cell? ⟨b0,0,none⟩=some (.string k)/\w'.cell? ⟨b0,1,none⟩=some (.string v)) (first |exact keep1 |exact⟨d0,d1⟩ |go_keep) (first |(go_at_call 179;refine(C1.out _ ?_).mono ?_;(first |exact hS2 |exact hS0.drew);rintro e w' ⟨rfl,rfl⟩) |(go_at_call 129;refine(C2.out _ ?_).mono ?_;(first |exact hS2 |exact hS0.drew);rintro e w' ⟨rfl,rfl⟩) |(go_at_call 79;refine(C3.out _).mono ?_;rintro e w2 ⟨rfl,hb2⟩;have hS2:Sh w2 b s:=hS0.drew.below hb2;have keep1:=KP.out w2 hb2))
  obtain⟨f0,f1⟩:=keep1
  clear d0 d1
  have hB0:Cb w2 b0 k v:=(N0.cb.of_block (by rfl):Cb w0.drew b0 k v).below hb2
  clear f0 f1
  go_wp2_with (first |(go_at_call 165;refine(C5.out _ hS2).mono ?_;rintro e w' ⟨rfl,rfl⟩) |(go_at_call 170;refine(C6.out _ hS2).mono ?_;rintro e w' ⟨rfl,rfl⟩) |(go_at_call 167;refine(C7.out _ hS2).mono ?_;rintro e w3 ⟨a,rfl,hc3,hb3⟩) |(go_at_call 169;refine(C8.out _ _ hc3).mono ?_;rintro e w4 ⟨rfl,hb4⟩) |(refine wpList_put_sh _ rfl _ _ rfl rfl rfl ((hS2.below hb3).below hb4) HPL.out ?_;intro w5 P5;have hB5:Cb w5 b0 k v:=((hB0.below hb3).below hb4).off P5.off (by have:=N0.le;omega);have f0:=hB5.c0;have f1:=hB5.c1) |(go_at_call 180;refine(C4.out _ P5.sh).mono ?_;rintro e w6 ⟨rfl,P6⟩))
  go_end0
  exact⟨rfl,by rw[hO.out];exact⟨P6.sh,(Off.of_below (thn (thn (thn (Go.below_drewN N0.below 1) hb2) hb3) hb4)).trans (P5.off.trans P6.off)⟩⟩
 ·have hO:Hid (layS s i c=putS s i c):=(by rw[layS,if_neg ho]:layS s i c=putS s i c)
  have hp:=hl.put1 ho
  have C4:Hid (∀ w,Sh w b s->Calls Tryz.prog 180 #[.pointer (some ⟨b,0,none⟩),.int .i64 (i:Int),.agg #[.string c.k,.string c.v]] w fun e w'=>e=.returned (.tuple #[])/\Put w w' b (putS s i c)):=fun w h=>put_any w h i c hl.i hp.right.head.en4 hk hv hp.room
  generalize need c=nd at *
  have ho':¬ (224:Int)<(en s:Int)+(cnt s:Int)+(nd:Int):=by omega
  generalize putS s i c=T at *
  generalize en s=e at *
  generalize cnt s=n at *
  generalize c.k=k at *
  generalize c.v=v at *
  have q1:IntKind.i64.wrap ((e:Int)+(n:Int))=(e:Int)+(n:Int):=IntWalk.i64_in _ (by omega)
  have q2:IntKind.i64.wrap ((e:Int)+(n:Int)+(nd:Int))=(e:Int)+(n:Int)+(nd:Int):=IntWalk.i64_in _ (by omega)
  have q3:decide ((224:Int)<(e:Int)+(n:Int)+(nd:Int))=false:=decide_eq_false ho'
  clear hp hl ho
  go_enter Tryz.func118,Tryz.ntmps118
  go_wp2_with (refine wpList_box_cb _ rfl _ rfl rfl ?_;intro w0 b0 N0)
  have hS0:=H.out.below N0.below
  have d0:=N0.cb.c0
  have d1:=N0.cb.c1
  have keep0:∀ W,Below w0.drew.heap.size w0.drew W->W.cell? ⟨b0,0,none⟩=some (.string k)/\W.cell? ⟨b0,1,none⟩=some (.string v):=fun W hb=>⟨(hb.cell (by exact N0.cb.lt)).trans d0,(hb.cell (by exact N0.cb.lt)).trans d1⟩
  have KP:Hid _:=keep0
  clear keep0
  go_region_held3 (fun w'=>w'.cell? ⟨b0,0,none⟩=some (.string k)/\w'.cell? ⟨b0,1,none⟩=some (.string v)) (first |exact keep1 |exact⟨d0,d1⟩ |go_keep) (first |(go_at_call 179;refine(C1.out _ ?_).mono ?_;(first |exact hS2 |exact hS0.drew);rintro e w' ⟨rfl,rfl⟩) |(go_at_call 129;refine(C2.out _ ?_).mono ?_;(first |exact hS2 |exact hS0.drew);rintro e w' ⟨rfl,rfl⟩) |(go_at_call 79;refine(C3.out _).mono ?_;rintro e w2 ⟨rfl,hb2⟩;have hS2:Sh w2 b s:=hS0.drew.below hb2;have keep1:=KP.out w2 hb2))
  obtain⟨f0,f1⟩:=keep1
  clear d0 d1
  go_wp2_with (go_at_call 180;refine(C4.out _ hS2).mono ?_;rintro e w3 ⟨rfl,P3⟩)
  go_end0
  exact⟨rfl,by rw[hO.out];exact⟨P3.sh,(Off.of_below (thn (Go.below_drewN N0.below 1) hb2)).trans P3.off⟩⟩
end
structure Turns (s:List UInt8):Prop where
 right:Right s
 kind:g s 0≠0
theorem rft_ok (w:World) (p:ByteArray) (h:Turns (bts p)):Calls Tryz.prog 120 #[.string p] w fun e w'=>e=.returned (.tuple #[pgV (bts p),.int .i64 0])/\Below w.heap.size w w':=by
 have hTl:(bts p).length=224:=h.right.head.len
 have CR:Hid (∀ w,Calls Tryz.prog 81 #[.string p] w fun e w'=>e=.returned (.tuple #[pgV (bts p),.bool true])/\Below w.heap.size w w'):=fun w=>read_right w p h.right
 have C2:Hid (∀ w b,Sh w b (bts p)->Calls Tryz.prog 165 #[.pointer (some ⟨b,0,none⟩)] w fun e w'=>e=.returned (.int .i64 (g (bts p) 0:Nat))/\w'=w):=fun w b h'=>kind_any w h'
 have hk:((g (bts p) 0:Int)==0)=false:=by have:=h.kind;simp;omega
 clear h
 generalize bts p=T at *
 generalize g T 0=k0 at *
 go_enter Tryz.func120,Tryz.ntmps120
 go_wp2_with (first |(refine wpList_new_sh _ rfl rfl ?_;first |(have:=N1;intro w3 b3 N3) |(intro w1 b1 N1)) |(go_at_call 81;refine(CR.out _).mono ?_;rintro e w2 ⟨rfl,hb2⟩) |(refine wpList_put_sh _ rfl (.tmp 4) _ rfl rfl (t:=T) rfl N3.sh hTl ?_;intro w4 P4) |(go_at_call 165;refine(C2.out _ _ P4.sh).mono ?_;rintro e w' ⟨rfl,rfl⟩) |(refine wpList_load_sh _ rfl _ rfl _ rfl T P4.sh ?_) |(refine wpList_put_sh _ rfl (.tmp 2) _ rfl rfl (t:=T) rfl (((N1.sh.below hb2).below N3.below).off P4.off ?_) hTl ?_;intro e;have z1:=N1.sh.lt;have z2:=N3.le;have z3:=hb2.size;omega;intro w5 P5))
 refine bodyPost_ret (results_row_tmp rfl _ _ b1 158 (pgA T) (0,0) _ rfl P5.sh.blk row_sheet rfl (info_pg hTl)) rfl ?_
 have hb:=opened (thn N1.below hb2) N3 P4
 exact⟨rfl,hb.trans (P5.below N1.le hb.size)⟩
theorem rft_no (w:World) (p:ByteArray) (hz:p.size<=140737488351232) (h:¬ Turns (bts p)):Calls Tryz.prog 120 #[.string p] w fun e w'=>e=.returned (.tuple #[pgV zs,.int .i64 4])/\Below w.heap.size w w':=by
 have hZl:=zs_length
 by_cases hr:Right (bts p)
 ·have hk0:g (bts p) 0=0:=Decidable.byContradiction fun e=>h ⟨hr,e⟩
  have hTl:(bts p).length=224:=hr.head.len
  have CR:Hid (∀ w,Calls Tryz.prog 81 #[.string p] w fun e w'=>e=.returned (.tuple #[pgV (bts p),.bool true])/\Below w.heap.size w w'):=fun w=>read_right w p hr
  have C2:Hid (∀ w b,Sh w b (bts p)->Calls Tryz.prog 165 #[.pointer (some ⟨b,0,none⟩)] w fun e w'=>e=.returned (.int .i64 (g (bts p) 0:Nat))/\w'=w):=fun w b h'=>kind_any w h'
  have hk:((g (bts p) 0:Int)==0)=true:=by simp;omega
  clear h hr hk0
  generalize bts p=T at *
  generalize g T 0=k0 at *
  go_enter Tryz.func120,Tryz.ntmps120
  go_wp2_with (first |(refine wpList_new_sh _ rfl rfl ?_;first |(have:=N1;intro w3 b3 N3) |(intro w1 b1 N1)) |(go_at_call 81;refine(CR.out _).mono ?_;rintro e w2 ⟨rfl,hb2⟩) |(refine wpList_put_sh _ rfl (.tmp 4) _ rfl rfl (t:=T) rfl N3.sh hTl ?_;intro w4 P4) |(go_at_call 165;refine(C2.out _ _ P4.sh).mono ?_;rintro e w' ⟨rfl,rfl⟩) |(refine wpList_put_sh _ rfl (.tmp 2) _ rfl rfl (t:=zs) zero63 (((N1.sh.below hb2).below N3.below).off P4.off ?_) hZl ?_;intro e;have z1:=N1.sh.lt;have z2:=N3.le;have z3:=hb2.size;omega;intro w5 P5))
  refine bodyPost_ret (results_row_tmp rfl _ _ b1 158 (pgA zs) (0,0) _ rfl P5.sh.blk row_sheet rfl (info_pg hZl)) rfl ?_
  have hb:=opened (thn N1.below hb2) N3 P4
  exact⟨rfl,hb.trans (P5.below N1.le hb.size)⟩
 ·have CR:Hid (∀ w,Calls Tryz.prog 81 #[.string p] w fun e w'=>e=.returned (.tuple #[pgV zs,.bool false])/\Below w.heap.size w w'):=fun w=>read_wrong w p hz hr
  clear h hr
  go_enter Tryz.func120,Tryz.ntmps120
  go_wp2_with (first |(refine wpList_new_sh _ rfl rfl ?_;first |(have:=N1;intro w3 b3 N3) |(intro w1 b1 N1)) |(go_at_call 81;refine(CR.out _).mono ?_;rintro e w2 ⟨rfl,hb2⟩) |(refine wpList_put_sh _ rfl (.tmp 4) _ rfl rfl (t:=zs) rfl N3.sh hZl ?_;intro w4 P4) |(refine wpList_put_sh _ rfl (.tmp 2) _ rfl rfl (t:=zs) zero63 (((N1.sh.below hb2).below N3.below).off P4.off ?_) hZl ?_;intro e;have z1:=N1.sh.lt;have z2:=N3.le;have z3:=hb2.size;omega;intro w5 P5))
  refine bodyPost_ret (results_row_tmp rfl _ _ b1 158 (pgA zs) (0,0) _ rfl P5.sh.blk row_sheet rfl (info_pg hZl)) rfl ?_
  have hb:=opened (thn N1.below hb2) N3 P4
  exact⟨rfl,hb.trans (P5.below N1.le hb.size)⟩
theorem rfc_ok (w:World) (p:ByteArray) (c:Cl) (h:Turns (bts p)):Calls Tryz.prog 117 #[.string p,.agg #[.string c.k,.string c.v]] w fun e w'=>e=.returned (.tuple #[pgV (bts p),.int .i64 (long c)])/\Below w.heap.size w w':=by
 have hTl:(bts p).length=224:=h.right.head.len
 have CR:Hid (∀ w,Calls Tryz.prog 120 #[.string p] w fun e w'=>e=.returned (.tuple #[pgV (bts p),.int .i64 0])/\Below w.heap.size w w'):=fun w=>rft_ok w p h
 have C2:Hid (∀ w,Calls Tryz.prog 153 #[.agg #[.string c.k,.string c.v]] w fun e w'=>e=.returned (.int .i64 (long c))/\Below w.heap.size w w'):=fun w=>tooLong_any w c
 clear h
 generalize bts p=T at *
 generalize long c=le at *
 go_enter Tryz.func117,Tryz.ntmps117
 go_wp2_with (first |(refine wpList_box_cb _ rfl _ rfl rfl ?_;intro w0 b0 N0) |(refine wpList_new_sh _ rfl rfl ?_;first |(have:=N1;intro w3 b3 N3) |(intro w1 b1 N1)) |(go_at_call 120;refine(CR.out _).mono ?_;rintro e w2 ⟨rfl,hb2⟩) |(refine wpList_put_sh _ rfl (.tmp 6) _ rfl rfl (t:=T) rfl N3.sh hTl ?_;intro w4 P4;have hB4:Cb w4 b0 c.k c.v:=((N0.cb.below N1.below).below hb2).of_block (opened_at hb2 N3 P4 (by have:=N1.below.size;have:=N0.cb.lt;omega));have f0:=hB4.c0;have f1:=hB4.c1) |(go_at_call 153;refine(C2.out _).mono ?_;rintro e w6 ⟨rfl,hb6⟩) |(refine wpList_load_sh _ rfl _ rfl _ rfl T (P4.sh.below hb6) ?_) |(refine wpList_put_sh _ rfl (.tmp 4) _ rfl rfl (t:=T) rfl ((((N1.sh.below hb2).below N3.below).off P4.off ?_).below hb6) hTl ?_;intro e;have z1:=N1.sh.lt;have z2:=N3.le;have z3:=hb2.size;omega;intro w5 P5))
 refine bodyPost_ret (results_row_tmp rfl _ _ b1 158 (pgA T) (0,0) _ rfl P5.sh.blk row_sheet rfl (info_pg hTl)) rfl ?_
 have hb:=thn (opened (thn (thn N0.below N1.below) hb2) N3 P4) hb6
 have z0:=N0.below.size
 have z1:=N1.le
 exact⟨rfl,hb.trans (P5.below (by omega) hb.size)⟩
theorem rfc_no (w:World) (p:ByteArray) (c:Cl) (hz:p.size<=140737488351232) (h:¬ Turns (bts p)):Calls Tryz.prog 117 #[.string p,.agg #[.string c.k,.string c.v]] w fun e w'=>e=.returned (.tuple #[pgV zs,.int .i64 4])/\Below w.heap.size w w':=by
 have hTl:=zs_length
 have CR:Hid (∀ w,Calls Tryz.prog 120 #[.string p] w fun e w'=>e=.returned (.tuple #[pgV zs,.int .i64 4])/\Below w.heap.size w w'):=fun w=>rft_no w p hz h
 clear h
 go_enter Tryz.func117,Tryz.ntmps117
 go_wp2_with (first |(refine wpList_box_cb _ rfl _ rfl rfl ?_;intro w0 b0 N0) |(refine wpList_new_sh _ rfl rfl ?_;first |(have:=N1;intro w3 b3 N3) |(intro w1 b1 N1)) |(go_at_call 120;refine(CR.out _).mono ?_;rintro e w2 ⟨rfl,hb2⟩) |(refine wpList_put_sh _ rfl (.tmp 6) _ rfl rfl (t:=zs) rfl N3.sh hTl ?_;intro w4 P4) |(refine wpList_load_sh _ rfl _ rfl _ rfl zs P4.sh ?_) |(refine wpList_put_sh _ rfl (.tmp 4) _ rfl rfl (t:=zs) rfl (((N1.sh.below hb2).below N3.below).off P4.off ?_) hTl ?_;intro e;have z1:=N1.sh.lt;have z2:=N3.le;have z3:=hb2.size;omega;intro w5 P5))
 refine bodyPost_ret (results_row_tmp rfl _ _ b1 158 (pgA zs) (0,0) _ rfl P5.sh.blk row_sheet rfl (info_pg hTl)) rfl ?_
 have hb:=opened (thn (thn N0.below N1.below) hb2) N3 P4
 have z0:=N0.below.size
 have z1:=N1.le
 exact⟨rfl,hb.trans (P5.below (by omega) hb.size)⟩
theorem rm_turns {s:List UInt8} (h:Turns s):rm s=220-needs (cells s):=by rw[rm,if_neg h.kind]
theorem Insert_form (w:World) (p:ByteArray) (c:Cl) (hz:p.size<=140737488351232) (h:¬ Turns (bts p)):Calls Tryz.prog 74 #[.string p,.agg #[.string c.k,.string c.v]] w fun e w'=>e=.returned (.tuple #[.string ⟨#[]⟩,.int .i64 4])/\Below w.heap.size w w':=by
 have hTl:=zs_length
 have CR:Hid (∀ w,Calls Tryz.prog 117 #[.string p,.agg #[.string c.k,.string c.v]] w fun e w'=>e=.returned (.tuple #[pgV zs,.int .i64 4])/\Below w.heap.size w w'):=fun w=>rfc_no w p c hz h
 clear h
 go_enter Tryz.func74,Tryz.ntmps74
 go_wp2_with (first |(refine wpList_box_cb _ rfl _ rfl rfl ?_;intro w0 b0 N0;have f0:=N0.cb.c0;have f1:=N0.cb.c1) |(go_at_call 117;refine(CR.out _).mono ?_;rintro e w2 ⟨rfl,hb2⟩) |(refine wpList_new_sh _ rfl rfl ?_;intro w3 b3 N3) |(refine wpList_put_sh _ rfl _ _ rfl rfl (t:=zs) rfl N3.sh hTl ?_;intro w4 P4;have hB4:Cb w4 b0 c.k c.v:=(N0.cb.below hb2).of_block (opened_at hb2 N3 P4 N0.cb.lt);have f0:=hB4.c0;have f1:=hB4.c1))
 go_ret2
 exact⟨rfl,opened (thn N0.below hb2) N3 P4⟩
theorem long_k {c:Cl} (h:long c=0):c.k.size<=16:=by
 unfold long at h;split at h
 ·cases h
 ·omega
theorem long_v {c:Cl} (h:long c=0):c.v.size<=32:=by
 unfold long at h;split at h
 ·cases h
 ·split at h
  ·cases h
  ·omega
theorem Insert_full (w:World) (p:ByteArray) (c:Cl) (h:Turns (bts p)) (hl:long c=0) (ha:isAt (cells (bts p)) c.k=false) (hf:220<needs (cells (bts p))+need c):Calls Tryz.prog 74 #[.string p,.agg #[.string c.k,.string c.v]] w fun e w'=>e=.returned (.tuple #[.string ⟨#[]⟩,.int .i64 7])/\Below w.heap.size w w':=by
 have hTl:(bts p).length=224:=h.right.head.len
 have hk0:c.k.size<=16:=long_k hl
 have hv0:c.v.size<=32:=long_v hl
 have CR:Hid (∀ w,Calls Tryz.prog 117 #[.string p,.agg #[.string c.k,.string c.v]] w fun e w'=>e=.returned (.tuple #[pgV (bts p),.int .i64 0])/\Below w.heap.size w w'):=fun w=>by
  have:=rfc_ok w p c h
  rw[hl] at this;exact this
 have C2:Hid (∀ w b,Sh w b (bts p)->Calls Tryz.prog 82 #[.pointer (some ⟨b,0,none⟩),.string c.k] w fun e w'=>e=.returned (.tuple #[.int .i64 (plc (cells (bts p)) c.k:Nat),.bool (isAt (cells (bts p)) c.k)])/\Below w.heap.size w w'):=fun w b h'=>find_any w h' h.right c.k
 have hn:=h.right.head.slotlt
 have hpl:=plc_le (cells (bts p)) c.k
 rw[cells_length] at hpl
 have C3:Hid (∀ w,Calls Tryz.prog 79 #[.agg #[.string c.k,.string c.v]] w fun e w'=>e=.returned (.int .i64 (need c))/\Below w.heap.size w w'):=fun w=>Need_any w c (by omega) (by omega)
 have hnd:need c<=51:=by simp only[need];omega
 have C4:Hid (∀ w b,Sh w b (bts p)->Calls Tryz.prog 111 #[.pointer (some ⟨b,0,none⟩)] w fun e w'=>e=.returned (.int .i64 (rm (bts p):Nat))/\Below w.heap.size w w'):=fun w b h'=>room_any w h' h.right
 have hrm:(rm (bts p):Int)<(need c:Int):=by rw[rm_turns h];have:=h.right.fit;omega
 rw[ha] at C2
 clear h hl ha hf
 generalize plc (cells (bts p)) c.k=i at *
 generalize rm (bts p)=r at *
 generalize bts p=T at *
 generalize need c=nd at *
 go_enter Tryz.func74,Tryz.ntmps74
 go_wp2_with (first |(refine wpList_box_cb _ rfl _ rfl rfl ?_;intro w0 b0 N0;have f0:=N0.cb.c0;have f1:=N0.cb.c1) |(go_at_call 117;refine(CR.out _).mono ?_;rintro e w2 ⟨rfl,hb2⟩) |(refine wpList_new_sh _ rfl rfl ?_;intro w3 b3 N3) |(refine wpList_put_sh _ rfl _ _ rfl rfl (t:=T) rfl N3.sh hTl ?_;intro w4 P4;have hB4:Cb w4 b0 c.k c.v:=(N0.cb.below hb2).of_block (opened_at hb2 N3 P4 N0.cb.lt);have f0:=hB4.c0;have f1:=hB4.c1) |(go_at_call 82;refine(C2.out _ _ P4.sh).mono ?_;rintro e w5 ⟨rfl,hb5⟩;have hB5:=hB4.below hb5;have f0:=hB5.c0;have f1:=hB5.c1) |(go_at_call 79;refine(C3.out _).mono ?_;rintro e w6 ⟨rfl,hb6⟩;have hB6:=hB5.below hb6;have f0:=hB6.c0;have f1:=hB6.c1) |(go_at_call 111;refine(C4.out _ _ ((P4.sh.below hb5).below hb6)).mono ?_;rintro e w7 ⟨rfl,hb7⟩;have hB7:=hB6.below hb7;have f0:=hB7.c0;have f1:=hB7.c1))
 go_ret2
 exact⟨rfl,thn (thn (thn (opened (thn N0.below hb2) N3 P4) hb5) hb6) hb7⟩
theorem Insert_ok (w:World) (p:ByteArray) (c:Cl) (h:Turns (bts p)) (hl:long c=0) (ha:isAt (cells (bts p)) c.k=false) (hf:needs (cells (bts p))+need c<=220):Calls Tryz.prog 74 #[.string p,.agg #[.string c.k,.string c.v]] w fun e w'=>e=.returned (.tuple #[.string (tx (layS (bts p) (plc (cells (bts p)) c.k) c)),.int .i64 0])/\Below w.heap.size w w':=by
 have hTl:(bts p).length=224:=h.right.head.len
 have hk0:c.k.size<=16:=long_k hl
 have hv0:c.v.size<=32:=long_v hl
 have CR:Hid (∀ w,Calls Tryz.prog 117 #[.string p,.agg #[.string c.k,.string c.v]] w fun e w'=>e=.returned (.tuple #[pgV (bts p),.int .i64 0])/\Below w.heap.size w w'):=fun w=>by
  have:=rfc_ok w p c h
  rw[hl] at this;exact this
 have C2:Hid (∀ w b,Sh w b (bts p)->Calls Tryz.prog 82 #[.pointer (some ⟨b,0,none⟩),.string c.k] w fun e w'=>e=.returned (.tuple #[.int .i64 (plc (cells (bts p)) c.k:Nat),.bool (isAt (cells (bts p)) c.k)])/\Below w.heap.size w w'):=fun w b h'=>find_any w h' h.right c.k
 have hn:=h.right.head.slotlt
 have hpl:=plc_le (cells (bts p)) c.k
 rw[cells_length] at hpl
 have C3:Hid (∀ w,Calls Tryz.prog 79 #[.agg #[.string c.k,.string c.v]] w fun e w'=>e=.returned (.int .i64 (need c))/\Below w.heap.size w w'):=fun w=>Need_any w c (by omega) (by omega)
 have hnd:need c<=51:=by simp only[need];omega
 have C4:Hid (∀ w b,Sh w b (bts p)->Calls Tryz.prog 111 #[.pointer (some ⟨b,0,none⟩)] w fun e w'=>e=.returned (.int .i64 (rm (bts p):Nat))/\Below w.heap.size w w'):=fun w b h'=>room_any w h' h.right
 have hrm:¬ (rm (bts p):Int)<(need c:Int):=by rw[rm_turns h];have:=h.right.fit;omega
 have hcl:CanLay (bts p) (plc (cells (bts p)) c.k) c:=⟨h.right,h.kind,hpl,hk0,hv0,hf⟩
 have C5:Hid (∀ w b,Sh w b (bts p)->Calls Tryz.prog 118 #[.pointer (some ⟨b,0,none⟩),.int .i64 (plc (cells (bts p)) c.k:Nat),.agg #[.string c.k,.string c.v]] w fun e w'=>e=.returned (.tuple #[])/\Put w w' b (layS (bts p) (plc (cells (bts p)) c.k) c)):=fun w b h'=>lay_any w h' _ c hcl
 have C6:Hid (∀ w b,Sh w b (layS (bts p) (plc (cells (bts p)) c.k) c)->Calls Tryz.prog 119 #[.pointer (some ⟨b,0,none⟩)] w fun e w'=>e=.returned (.string (tx (layS (bts p) (plc (cells (bts p)) c.k) c)))/\w'=w):=fun w b h'=>text_any w h'
 rw[ha] at C2
 clear h hl ha hf hcl
 generalize layS (bts p) (plc (cells (bts p)) c.k) c=R at *
 generalize plc (cells (bts p)) c.k=i at *
 generalize rm (bts p)=r at *
 generalize bts p=T at *
 generalize need c=nd at *
 go_enter Tryz.func74,Tryz.ntmps74
 go_wp2_with (first |(refine wpList_box_cb _ rfl _ rfl rfl ?_;intro w0 b0 N0;have f0:=N0.cb.c0;have f1:=N0.cb.c1) |(go_at_call 117;refine(CR.out _).mono ?_;rintro e w2 ⟨rfl,hb2⟩) |(refine wpList_new_sh _ rfl rfl ?_;intro w3 b3 N3) |(refine wpList_put_sh _ rfl _ _ rfl rfl (t:=T) rfl N3.sh hTl ?_;intro w4 P4;have hB4:Cb w4 b0 c.k c.v:=(N0.cb.below hb2).of_block (opened_at hb2 N3 P4 N0.cb.lt);have f0:=hB4.c0;have f1:=hB4.c1) |(go_at_call 82;refine(C2.out _ _ P4.sh).mono ?_;rintro e w5 ⟨rfl,hb5⟩;have hB5:=hB4.below hb5;have f0:=hB5.c0;have f1:=hB5.c1) |(go_at_call 79;refine(C3.out _).mono ?_;rintro e w6 ⟨rfl,hb6⟩;have hB6:=hB5.below hb6;have f0:=hB6.c0;have f1:=hB6.c1) |(go_at_call 111;refine(C4.out _ _ ((P4.sh.below hb5).below hb6)).mono ?_;rintro e w7 ⟨rfl,hb7⟩;have hB7:=hB6.below hb7;have f0:=hB7.c0;have f1:=hB7.c1) |(go_at_call 118;refine(C5.out _ _ (((P4.sh.below hb5).below hb6).below hb7)).mono ?_;rintro e w8 ⟨rfl,P8⟩) |(go_at_call 119;refine(C6.out _ _ P8.sh).mono ?_;rintro e w9 ⟨rfl,rfl⟩))
 go_ret2
 have hb:=thn (thn (thn (opened (thn N0.below hb2) N3 P4) hb5) hb6) hb7
 have z0:=N0.below.size
 have z2:=hb2.size
 have z3:=N3.le
 exact⟨rfl,hb.trans (P8.below (by omega) hb.size)⟩
def bad (k:Nat) (L:List Cl) (i:Nat):Int:=match L[i]? with
 | none=>0
 | some c=>if long c≠0 then long c else if k=0 then 4 else if 0<i/\lt (L[i-1]?.getD c).k c.k=false then 4 else if 220<needs (L.take i)+need c then 7 else 0
def firstBad (k:Nat) (L:List Cl):Int:=(((List.range L.length).map (bad k L)).find? (fun x=>x !=0)).getD 0
theorem firstBad_at {k:Nat} {L:List Cl} {i:Nat} (hi:i<L.length) (h:∀ j,j<i->bad k L j=0) (hb:bad k L i≠0):firstBad k L=bad k L i:=by
 have e:List.range L.length=List.range i++(i ::(List.range (L.length-i-1)).map (fun x=>x+(i+1))):=by
  apply List.ext_getElem?
  intro t
  by_cases h1:t<i
  ·rw[List.getElem?_append_left (by simpa using h1)]
   rw[List.getElem?_range (by omega),List.getElem?_range h1]
  ·rw[List.getElem?_append_right (by simp;omega),List.length_range]
   by_cases h2:t=i
   ·subst h2;rw[Nat.sub_self,List.getElem?_cons_zero,List.getElem?_range hi]
   ·obtain⟨d,rfl⟩:∃ d,t=i+1+d:=⟨t-i-1,by omega⟩
    rw[show i+1+d-i=d+1 by omega,List.getElem?_cons_succ,List.getElem?_map]
    by_cases h3:i+1+d<L.length
    ·rw[List.getElem?_range h3,List.getElem?_range (by omega)]
     simp;omega
    ·rw[List.getElem?_eq_none (by simp;omega),List.getElem?_eq_none (by simp;omega)];rfl
 rw[firstBad,e,List.map_append,List.find?_append]
 have h0:((List.range i).map (bad k L)).find? (fun x=>x !=0)=none:=by
  rw[List.find?_eq_none]
  intro x hx
  obtain⟨j,hj,rfl⟩:=List.mem_map.1 hx
  simp[h j (List.mem_range.1 hj)]
 rw[h0,Option.none_or,List.map_cons,List.find?_cons_of_pos (by simpa using hb)]
 rfl
theorem firstBad_ok {k:Nat} {L:List Cl} (h:∀ j,j<L.length->bad k L j=0):firstBad k L=0:=by
 have h0:((List.range L.length).map (bad k L)).find? (fun x=>x !=0)=none:=by
  rw[List.find?_eq_none]
  intro x hx
  obtain⟨j,hj,rfl⟩:=List.mem_map.1 hx
  simp[h j (List.mem_range.1 hj)]
 rw[firstBad,h0];rfl
section
variable {k l:Nat}{L:List Cl}{i:Nat}
theorem bad_get (hi:i<L.length):bad k L i=if long L[i]≠0 then long L[i] else if k=0 then 4 else if 0<i/\lt (L[i-1]?.getD L[i]).k L[i].k=false then 4 else if 220<needs (L.take i)+need L[i] then 7 else 0:=by
 rw[bad,List.getElem?_eq_getElem hi]
structure Good (k:Nat) (L:List Cl) (i:Nat):Prop where
 long:long (L[i]?.getD ⟨⟨#[]⟩,⟨#[]⟩⟩)=0
 k:k≠0
 rise:0<i->∃ a c,L[i-1]?=some a/\L[i]?=some c/\lt a.k c.k=true
 fit:∃ c,L[i]?=some c/\needs (L.take i)+need c<=220
theorem good_of (hi:i<L.length) (h:bad k L i=0):Good k L i:=by
 rw[bad_get hi] at h
 split at h
 ·contradiction
 ·rename_i h1
  split at h
  ·cases h
  ·rename_i h2
   split at h
   ·cases h
   ·rename_i h3
    split at h
    ·cases h
    ·rename_i h4
     refine⟨by rw[List.getElem?_eq_getElem hi];exact Decidable.byContradiction h1,h2,fun h0=>?_,⟨_,List.getElem?_eq_getElem hi,by omega⟩⟩
     refine⟨L[i-1],L[i],List.getElem?_eq_getElem (by omega),List.getElem?_eq_getElem hi,?_⟩
     rw[List.getElem?_eq_getElem (by omega:i-1<L.length)] at h3
     cases e:lt L[i-1].k L[i].k
     ·exact absurd ⟨h0,e⟩ h3
     ·rfl
theorem canPack_of (h1:k<=2) (h2:l<=255) (h3:k=2∨l=0) (hi:i<=L.length) (h:∀ j,j<i->bad k L j=0):CanPack k l (L.take i):=by
 have hg:∀ j (hj:j<i),Good k L j:=fun j hj=>good_of (by omega) (h j hj)
 have hlk:∀ j (hj:j<i),L[j].k.size<=16/\L[j].v.size<=32:=fun j hj=>by
  have:=(hg j hj).long
  rw[List.getElem?_eq_getElem (by omega:j<L.length)] at this
  exact⟨long_k this,long_v this⟩
 refine⟨h1,h2,h3,fun e=>?_,fun c hc=>?_,fun c hc=>?_,?_,?_⟩
 ·by_cases e0:i=0
  ·subst e0;simp
  ·exact absurd e (hg 0 (by omega)).k
 ·obtain⟨j,hj,rfl⟩:=List.mem_take_iff_getElem.1 hc
  exact(hlk j (by omega)).1
 ·obtain⟨j,hj,rfl⟩:=List.mem_take_iff_getElem.1 hc
  exact(hlk j (by omega)).2
 ·have hch:∀ b a,(hab:a<b)->(hb:b<i)->lt L[a].k L[b].k=true:=by
   intro b
   induction b with
   | zero=>intro a ha;omega
   | succ b ih =>
    intro a ha hb
    obtain⟨x,y,hx,hy,hl⟩:=(hg (b+1) hb).rise (by omega)
    rw[Nat.add_sub_cancel,List.getElem?_eq_getElem (by omega)] at hx
    rw[List.getElem?_eq_getElem (by omega)] at hy
    simp only[Option.some.injEq] at hx hy
    subst hx hy
    by_cases e:a=b
    ·subst e;exact hl
    ·exact lt_trans (ih a (by omega) (by omega)) hl
  refine List.pairwise_iff_getElem.2 fun a b ha hb hab=>?_
  rw[List.getElem_take,List.getElem_take]
  rw[List.length_take] at hb
  exact hch b a hab (by omega)
 ·by_cases e0:i=0
  ·subst e0;simp[needs]
  ·obtain⟨c,hc,hf⟩:=(hg (i-1) (by omega)).fit
   have:=needs_take_succ (L:=L) (i:=i-1) (by omega)
   rw[List.getElem?_eq_getElem (by omega)] at hc
   simp only[Option.some.injEq] at hc
   rw[show i-1+1=i by omega,hc] at this
   omega
end
theorem boxed {w w1 w2 w3:World} {b:Nat} {k v k' v':ByteArray} (h:Below w.heap.size w w1) (N:NewC w1 w2 b k v) (P:PutC w2 w3 b k' v'):Below w.heap.size w w3:=by
 have z1:=h.size
 have z2:=N.below.size
 have z3:=N.le
 exact thn h (N.below.trans (P.below z3 z2))
theorem Sh.boxed {w1 w2 w3:World} {c b:Nat} {k v k' v':ByteArray} {s:List UInt8} (h:Sh w1 c s) (N:NewC w1 w2 b k v) (P:PutC w2 w3 b k' v'):Sh w3 c s :=
 (h.below N.below).off P.off (by have:=h.lt;have:=N.le;omega)
theorem Make_arg (w:World) (k l:Int) (v:Value) (h:fit k l=false):Calls Tryz.prog 101 #[.int .i64 k,.int .i64 l,v] w fun e w'=>e=.returned (.tuple #[.string ⟨#[]⟩,.int .i64 1])/\Below w.heap.size w w':=by
 have C5:Hid (∀ w,Calls Tryz.prog 151 #[.int .i64 k,.int .i64 l] w fun e w'=>e=.returned (.bool false)/\w'=w):=fun w=>by
  have:=fits_any w k l
  rw[h] at this;exact this
 clear h
 go_enter Tryz.func101,Tryz.ntmps101
 go_wp2_with (go_at_call 151;refine(C5.out _).mono ?_;rintro e w' ⟨rfl,rfl⟩)
 go_ret2
 exact⟨rfl,Below.refl _ _⟩
set_option maxHeartbeats 2000000 in
theorem Make_any (w:World) (k l:Nat) {a:Option Addr} {L:List Cl} (cap:Nat) (hC:Cs w a L) (h1:k<=2) (h2:l<=255) (h3:k=2∨l=0) (hln:L.length<=1000) :
  Calls Tryz.prog 101 #[.int .i64 (k:Int),.int .i64 (l:Int),.slice a L.length cap] w fun e w'=>e=.returned (.tuple #[.string (if firstBad k L=0 then tx (packS k l L) else⟨#[]⟩),.int .i64 (firstBad k L)])/\Below w.heap.size w w':=by
 have C5:Hid (∀ w,Calls Tryz.prog 151 #[.int .i64 (k:Int),.int .i64 (l:Int)] w fun e w'=>e=.returned (.bool true)/\w'=w):=fun w=>by
  have:=fits_any w k l
  rw[show fit k l=true by simp only[fit,decide_eq_true_eq];omega] at this;exact this
 have C1:Hid (∀ w,Calls Tryz.prog 152 #[.int .i64 (k:Int),.int .i64 (l:Int)] w fun e w'=>e=.returned (pgV (blankS k l))/\Below w.heap.size w w'):=fun w=>blank_any w k l (by omega) (by omega)
 have HCP:Hid (∀ i,i<=L.length->(∀ j,j<i->bad k L j=0)->CanPack k l (L.take i)):=(fun i hi h=>canPack_of h1 h2 h3 hi h:∀ i,i<=L.length->(∀ j,j<i->bad k L j=0)->CanPack k l (L.take i))
 generalize hF:(Ending.returned (.tuple #[.string (if firstBad k L=0 then tx (packS k l L) else⟨#[]⟩),.int .i64 (firstBad k L)]))=F
 have HF:Hid (F=Ending.returned (.tuple #[.string (if firstBad k L=0 then tx (packS k l L) else⟨#[]⟩),.int .i64 (firstBad k L)])):=hF.symm
 clear hF
 go_enter Tryz.func101,Tryz.ntmps101
 go_wp2_with (first |(go_at_call 151;refine(C5.out _).mono ?_;rintro e w' ⟨rfl,rfl⟩) |(go_at_call 152;refine(C1.out _).mono ?_;rintro e w2 ⟨rfl,hb2⟩) |(refine wpList_new_sh _ rfl rfl ?_;intro w3 b3 N3) |(refine wpList_put_sh _ rfl _ _ rfl rfl (t:=blankS k l) rfl N3.sh (blankS_length k l) ?_;intro w4 P4))
 have hb4:Below w'.heap.size w' w4:=opened hb2 N3 P4
 have hb3:w'.heap.size<=b3:=by
  have:=hb2.size
  have:=N3.le
  omega
 go_loopw [21] (fun kv wr=>∃ i:Nat,kv=.int .i64 (i:Int)/\i<=L.length/\Hid (∀ j,j<i->bad k L j=0)/\Sh wr b3 (packS k l (L.take i))/\Below w'.heap.size w' wr) (fun kv _=>L.length-(intOf kv).toNat)
 case atStart=>exact⟨0,rfl,Nat.zero_le _,(fun j hj=>absurd hj (Nat.not_lt_zero _):∀ j,j<0->bad k L j=0),by rw[List.take_zero];exact P4.sh,hb4⟩
 case round =>
  obtain⟨i,rfl,hi,hbad,hS,hbel⟩:=hrel
  by_cases hlt:i<L.length
  ·have hltI:(i:Int)<(L.length:Int):=by omega
   obtain⟨bb,off,rfl,hb,c0,c1⟩:=hC.at' hbel hlt
   have hbg:=bad_get (k:=k) hlt
   have hcp:=HCP.out i hi hbad.out
   have hpk:=packed_all _ hcp
   have CL:Hid (∀ w,Calls Tryz.prog 153 #[.agg #[.string L[i].k,.string L[i].v]] w fun e w'=>e=.returned (.int .i64 (long L[i]))/\Below w.heap.size w w'):=fun w=>tooLong_any w _
   have HFB:Hid (bad k L i≠0->firstBad k L=bad k L i):=(fun hb=>firstBad_at hlt hbad.out hb:bad k L i≠0->firstBad k L=bad k L i)
   by_cases hlong:long L[i]=0
   ·rw[hlong] at CL
    have hk:=long_k hlong
    have hv:=long_v hlong
    rw[if_neg (by simpa using hlong)] at hbg
    have CN:Hid (∀ w,Calls Tryz.prog 79 #[.agg #[.string L[i].k,.string L[i].v]] w fun e w'=>e=.returned (.int .i64 (need L[i]))/\Below w.heap.size w w'):=fun w=>Need_any w _ (by omega) (by omega)
    by_cases hk0:k=0
    ·have hE:Hid (F=Ending.returned (.tuple #[.string ⟨#[]⟩,.int .i64 4])):=by
      have e1:bad k L i=4:=by rw[hbg,if_pos hk0]
      have e2:=HFB.out (by rw[e1];decide)
      have:F=Ending.returned (.tuple #[.string ⟨#[]⟩,.int .i64 4]):=by rw[HF.out,e2,e1];rfl
      exact this
     have hk0':((k:Int)==0)=true:=by simp;omega
     clear hbg hcp hpk hlong hS
     generalize L[i]=c at *
     go_wp2_with (first |(refine wpList_new_cb _ rfl rfl ?_;intro w5 b5 N5) |(refine wpList_put_cb _ rfl _ _ rfl rfl rfl N5.cb ?_;intro w6 P6;have f0:=P6.cb.c0;have f1:=P6.cb.c1) |(go_at_call 153;refine(CL.out _).mono ?_;rintro e w7 ⟨rfl,hb7⟩;have hB7:=P6.cb.below hb7;have f0:=hB7.c0;have f1:=hB7.c1))
     go_quiet (fail)
     go_wp2
     go_ret2
     exact⟨by rw[hE.out];rfl,Go.below_drewN (thn (boxed hbel N5 P6) hb7) _⟩
    ·rw[if_neg hk0] at hbg
     have hk0':((k:Int)==0)=false:=by simp;omega
     have hrm:rm (packS k l (L.take i))=220-needs (L.take i):=by rw[rm,hpk.gk,if_neg hk0,hpk.cells]
     have CM:Hid (∀ w b,Sh w b (packS k l (L.take i))->Calls Tryz.prog 111 #[.pointer (some ⟨b,0,none⟩)] w fun e w'=>e=.returned (.int .i64 (rm (packS k l (L.take i)):Nat))/\Below w.heap.size w w'):=fun w b h'=>room_any w h' hpk.right
     have hfit:=hcp.fit
     have hcnt:cnt (packS k l (L.take i))=i:=by rw[← cells_length,hpk.cells,List.length_take];omega
     have CY0:bad k L i=0->∀ w b,Sh w b (packS k l (L.take i))->Calls Tryz.prog 118 #[.pointer (some ⟨b,0,none⟩),.int .i64 (i:Int),.agg #[.string L[i].k,.string L[i].v]] w fun e w'=>e=.returned (.tuple #[])/\Put w w' b (packS k l (L.take (i+1))):=fun hz w b h'=>by
      have hg:=good_of hlt hz
      obtain⟨c,hc,hf⟩:=hg.fit
      rw[List.getElem?_eq_getElem hlt] at hc
      simp only[Option.some.injEq] at hc
      have hcl:CanLay (packS k l (L.take i)) i L[i]:=⟨hpk.right,by rw[hpk.gk];exact hk0,by omega,hk,hv,by rw[hpk.cells,hc];exact hf⟩
      have e:L.take (i+1)=L.take i++[L[i]]:=List.take_succ_eq_append_getElem hlt
      have hen:=hpk.en
      rw[List.length_take,Nat.min_eq_left (by omega)] at hen
      have e2:layS (packS k l (L.take i)) i L[i]=packS k l (L.take (i+1)):=by
       rw[layS,if_neg (by rw[hcnt,hc];omega),e,packS_snoc,hcnt]
      have:=lay_any w h' i L[i] hcl
      rw[e2] at this
      exact this
     have CYH:Hid _:=CY0
     clear CY0
     have hst:=needs_take_succ hlt
     generalize hrr:rm (packS k l (L.take i))=r at *
     generalize needs (L.take i)=m at *
     generalize hPS:packS k l (L.take i)=PS at *
     obtain⟨PN,hPN⟩:∃ PN,PN=packS k l (L.take (i+1)):=⟨_,rfl⟩
     rw[← hPN] at CYH
     have HPN:Hid _:=hPN
     clear hPN
     have HS:Hid _:=hS
     have hnd:need L[i]<=51:=by simp only[need];omega
     clear hS hcp hpk hcnt hst hPS hrr
     by_cases h0:i=0
     ·subst h0
      rw[if_neg (by omega)] at hbg
      rw[Nat.zero_mul,Nat.add_zero] at c0 c1
      by_cases hf:220<m+need L[0]
      ·have hE:Hid (F=Ending.returned (.tuple #[.string ⟨#[]⟩,.int .i64 7])):=by
        have e1:bad k L 0=7:=by rw[hbg,if_pos hf]
        have e2:=HFB.out (by rw[e1];decide)
        have:F=Ending.returned (.tuple #[.string ⟨#[]⟩,.int .i64 7]):=by rw[HF.out,e2,e1];rfl
        exact this
       have hrI:(r:Int)<(need L[0]:Int):=by omega
       clear hbg hlong CYH hf
       generalize need L[0]=nd at *
       generalize L[0]=c at *
       go_wp2_with (first |(refine wpList_new_cb _ rfl rfl ?_;intro w5 b5 N5) |(refine wpList_put_cb _ rfl _ _ rfl rfl rfl N5.cb ?_;intro w6 P6;have f0:=P6.cb.c0;have f1:=P6.cb.c1) |(go_at_call 153;refine(CL.out _).mono ?_;rintro e w7 ⟨rfl,hb7⟩;have hB7:=P6.cb.below hb7;have f0:=hB7.c0;have f1:=hB7.c1))
       go_quiet (fail)
       go_wp2_with (first |(go_at_call 79;refine(CN.out _).mono ?_;rintro e w8 ⟨rfl,hb8⟩;have hS8:Sh w8 b3 PS:=(((HS.out.boxed N5 P6).below hb7).drewN _).below hb8;have hB8:Cb w8 b5 c.k c.v:=(hB7.of_block (by rfl):Cb (w7.drewN nq) b5 c.k c.v).below hb8;have f0:=hB8.c0;have f1:=hB8.c1) |(go_at_call 111;refine(CM.out _ _ hS8).mono ?_;rintro e w9 ⟨rfl,hb9⟩;have hB9:=hB8.below hb9;have f0:=hB9.c0;have f1:=hB9.c1))
       go_ret2
       exact⟨by rw[hE.out];rfl,thn (thn (Go.below_drewN (thn (boxed hbel N5 P6) hb7) _) hb8) hb9⟩
      ·have e1:bad k L 0=0:=by rw[hbg,if_neg hf]
       have CY:Hid _:=CYH.out e1
       have hbad2:Hid (∀ j',j'<0+1->bad k L j'=0):=(fun j' hj'=>by
        by_cases e:j'=0
        ·subst e;exact e1
        ·exact hbad.out j' (by omega):∀ j',j'<0+1->bad k L j'=0)
       have hrI:¬ (r:Int)<(need L[0]:Int):=by omega
       clear hbg hlong CYH hf e1
       generalize need L[0]=nd at *
       generalize L[0]=c at *
       go_wp2_with (first |(refine wpList_new_cb _ rfl rfl ?_;intro w5 b5 N5) |(refine wpList_put_cb _ rfl _ _ rfl rfl rfl N5.cb ?_;intro w6 P6;have f0:=P6.cb.c0;have f1:=P6.cb.c1) |(go_at_call 153;refine(CL.out _).mono ?_;rintro e w7 ⟨rfl,hb7⟩;have hB7:=P6.cb.below hb7;have f0:=hB7.c0;have f1:=hB7.c1))
       go_quiet (fail)
       go_wp2_with (first |(go_at_call 79;refine(CN.out _).mono ?_;rintro e w8 ⟨rfl,hb8⟩;have hS8:Sh w8 b3 PS:=(((HS.out.boxed N5 P6).below hb7).drewN _).below hb8;have hB8:Cb w8 b5 c.k c.v:=(hB7.of_block (by rfl):Cb (w7.drewN nq) b5 c.k c.v).below hb8;have f0:=hB8.c0;have f1:=hB8.c1) |(go_at_call 111;refine(CM.out _ _ hS8).mono ?_;rintro e w9 ⟨rfl,hb9⟩;have hB9:=hB8.below hb9;have f0:=hB9.c0;have f1:=hB9.c1) |(go_at_call 118;refine(CY.out _ _ (hS8.below hb9)).mono ?_;rintro e w10 ⟨rfl,P10⟩))
       go_roundw
       case rel =>
        have hb':=thn (thn (Go.below_drewN (thn (boxed hbel N5 P6) hb7) nq) hb8) hb9
        exact⟨0+1,by go_num,by omega,hbad2,(by rw[← HPN.out];exact P10.sh),hb'.trans (P10.below hb3 hb'.size)⟩
       case measure=>simp[intOf];omega
     ·obtain⟨j,rfl⟩:∃ j,i=j+1:=⟨i-1,by omega⟩
      have hje:(L[j+1-1]?.getD L[j+1]).k=L[j].k:=by rw[Nat.add_sub_cancel,List.getElem?_eq_getElem (by omega)];rfl
      rw[hje] at hbg
      have hle:=leq_not L[j].k L[j+1].k
      obtain⟨bb2,off2,hbb,hb2',e0,e1⟩:=hC.at_ j (by omega)
      simp only[Option.some.injEq,Addr.mk.injEq,and_true] at hbb
      obtain⟨rfl,rfl⟩:=hbb
      have HE0:Hid _:=e0
      clear e0 e1 hje
      have hj1:((j+1:Nat):Int)=(j:Int)+1:=by omega
      cases hl:lt L[j].k L[j+1].k
      ·have hE:Hid (F=Ending.returned (.tuple #[.string ⟨#[]⟩,.int .i64 4])):=by
        have e1:bad k L (j+1)=4:=by rw[hbg,if_pos ⟨by omega,hl⟩]
        have e2:=HFB.out (by rw[e1];decide)
        have:F=Ending.returned (.tuple #[.string ⟨#[]⟩,.int .i64 4]):=by rw[HF.out,e2,e1];rfl
        exact this
       rw[hl] at hle
       clear hbg hlong hl CYH
       rw[hj1]
       generalize L[j+1]=c at *
       generalize L[j]=c' at *
       go_wp2_with (first |(refine wpList_new_cb _ rfl rfl ?_;intro w5 b5 N5) |(refine wpList_put_cb _ rfl _ _ rfl rfl rfl N5.cb ?_;intro w6 P6;have f0:=P6.cb.c0;have f1:=P6.cb.c1) |(go_at_call 153;refine(CL.out _).mono ?_;rintro e w7 ⟨rfl,hb7⟩;have hB7:=P6.cb.below hb7;have f0:=hB7.c0;have f1:=hB7.c1))
       have hw7:=thn (boxed hbel N5 P6) hb7
       have e0:=(hw7.cell (by exact hb2')).trans HE0.out
       go_quiet (fail)
       go_wp2
       go_ret2
       exact⟨by rw[hE.out];rfl,Go.below_drewN hw7 _⟩
      ·rw[if_neg (by rw[hl];simp)] at hbg
       rw[hl] at hle
       clear hl
       by_cases hf:220<m+need L[j+1]
       ·have hE:Hid (F=Ending.returned (.tuple #[.string ⟨#[]⟩,.int .i64 7])):=by
         have e1:bad k L (j+1)=7:=by rw[hbg,if_pos hf]
         have e2:=HFB.out (by rw[e1];decide)
         have:F=Ending.returned (.tuple #[.string ⟨#[]⟩,.int .i64 7]):=by rw[HF.out,e2,e1];rfl
         exact this
        have hrI:(r:Int)<(need L[j+1]:Int):=by omega
        clear hbg hlong CYH hf
        rw[hj1]
        generalize need L[j+1]=nd at *
        generalize L[j+1]=c at *
        generalize L[j]=c' at *
        go_wp2_with (first |(refine wpList_new_cb _ rfl rfl ?_;intro w5 b5 N5) |(refine wpList_put_cb _ rfl _ _ rfl rfl rfl N5.cb ?_;intro w6 P6;have f0:=P6.cb.c0;have f1:=P6.cb.c1) |(go_at_call 153;refine(CL.out _).mono ?_;rintro e w7 ⟨rfl,hb7⟩;have hB7:=P6.cb.below hb7;have f0:=hB7.c0;have f1:=hB7.c1))
        have hw7:=thn (boxed hbel N5 P6) hb7
        have e0:=(hw7.cell (by exact hb2')).trans HE0.out
        go_quiet (fail)
        go_wp2_with (first |(go_at_call 79;refine(CN.out _).mono ?_;rintro e w8 ⟨rfl,hb8⟩;have hS8:Sh w8 b3 PS:=(((HS.out.boxed N5 P6).below hb7).drewN _).below hb8;have hB8:Cb w8 b5 c.k c.v:=(hB7.of_block (by rfl):Cb (w7.drewN nq) b5 c.k c.v).below hb8;have f0:=hB8.c0;have f1:=hB8.c1) |(go_at_call 111;refine(CM.out _ _ hS8).mono ?_;rintro e w9 ⟨rfl,hb9⟩;have hB9:=hB8.below hb9;have f0:=hB9.c0;have f1:=hB9.c1))
        go_ret2
        exact⟨by rw[hE.out];rfl,thn (thn (Go.below_drewN (thn (boxed hbel N5 P6) hb7) _) hb8) hb9⟩
       ·have e1:bad k L (j+1)=0:=by rw[hbg,if_neg hf]
        have CY:Hid _:=CYH.out e1
        have hbad2:Hid (∀ j',j'<j+1+1->bad k L j'=0):=(fun j' hj'=>by
         by_cases e:j'=j+1
         ·subst e;exact e1
         ·exact hbad.out j' (by omega):∀ j',j'<j+1+1->bad k L j'=0)
        have hrI:¬ (r:Int)<(need L[j+1]:Int):=by omega
        clear hbg hlong CYH hf e1
        rw[hj1] at CY ⊢
        generalize need L[j+1]=nd at *
        generalize L[j+1]=c at *
        generalize L[j]=c' at *
        go_wp2_with (first |(refine wpList_new_cb _ rfl rfl ?_;intro w5 b5 N5) |(refine wpList_put_cb _ rfl _ _ rfl rfl rfl N5.cb ?_;intro w6 P6;have f0:=P6.cb.c0;have f1:=P6.cb.c1) |(go_at_call 153;refine(CL.out _).mono ?_;rintro e w7 ⟨rfl,hb7⟩;have hB7:=P6.cb.below hb7;have f0:=hB7.c0;have f1:=hB7.c1))
        have hw7:=thn (boxed hbel N5 P6) hb7
        have e0:=(hw7.cell (by exact hb2')).trans HE0.out
        go_quiet (fail)
        go_wp2_with (first |(go_at_call 79;refine(CN.out _).mono ?_;rintro e w8 ⟨rfl,hb8⟩;have hS8:Sh w8 b3 PS:=(((HS.out.boxed N5 P6).below hb7).drewN _).below hb8;have hB8:Cb w8 b5 c.k c.v:=(hB7.of_block (by rfl):Cb (w7.drewN nq) b5 c.k c.v).below hb8;have f0:=hB8.c0;have f1:=hB8.c1) |(go_at_call 111;refine(CM.out _ _ hS8).mono ?_;rintro e w9 ⟨rfl,hb9⟩;have hB9:=hB8.below hb9;have f0:=hB9.c0;have f1:=hB9.c1) |(go_at_call 118;refine(CY.out _ _ (hS8.below hb9)).mono ?_;rintro e w10 ⟨rfl,P10⟩))
        go_roundw
        case rel =>
         have hb':=thn (thn (Go.below_drewN (thn (boxed hbel N5 P6) hb7) nq) hb8) hb9
         exact⟨j+1+1,by go_num,by omega,hbad2,(by rw[← HPN.out];exact P10.sh),hb'.trans (P10.below hb3 hb'.size)⟩
        case measure=>simp[intOf];omega
   ·have hE:Hid (F=Ending.returned (.tuple #[.string ⟨#[]⟩,.int .i64 (long L[i])])):=by
     have e1:bad k L i=long L[i]:=by rw[hbg,if_pos hlong]
     have e2:=HFB.out (by rw[e1];exact hlong)
     have:F=Ending.returned (.tuple #[.string ⟨#[]⟩,.int .i64 (long L[i])]):=by rw[HF.out,e2,e1,if_neg hlong]
     exact this
    have hl':(long L[i] !=0)=true:=by simpa using hlong
    clear hbg hcp hpk hlong hS
    generalize long L[i]=le at *
    generalize L[i]=c at *
    go_wp2_with (first |(refine wpList_new_cb _ rfl rfl ?_;intro w5 b5 N5) |(refine wpList_put_cb _ rfl _ _ rfl rfl rfl N5.cb ?_;intro w6 P6;have f0:=P6.cb.c0;have f1:=P6.cb.c1) |(go_at_call 153;refine(CL.out _).mono ?_;rintro e w7 ⟨rfl,hb7⟩;have hB7:=P6.cb.below hb7;have f0:=hB7.c0;have f1:=hB7.c1))
    go_ret2
    exact⟨by rw[hE.out];rfl,thn (boxed hbel N5 P6) hb7⟩
  ·have hie:i=L.length:=by omega
   subst hie
   rw[List.take_length] at hS
   have hlt':¬ (L.length:Int)<(L.length:Int):=by omega
   have e0:=firstBad_ok (k:=k) hbad.out
   have hE:Hid (F=Ending.returned (.tuple #[.string (tx (packS k l L)),.int .i64 0])):=by
    have:F=Ending.returned (.tuple #[.string (tx (packS k l L)),.int .i64 0]):=by rw[HF.out,e0];rfl
    exact this
   have C6:Hid (∀ w b,Sh w b (packS k l L)->Calls Tryz.prog 119 #[.pointer (some ⟨b,0,none⟩)] w fun e w'=>e=.returned (.string (tx (packS k l L)))/\w'=w):=fun w b h'=>text_any w h'
   clear e0
   generalize packS k l L=PS at *
   go_wp2_with (go_at_call 119;refine(C6.out _ _ hS).mono ?_;rintro e w9 ⟨rfl,rfl⟩)
   go_ret2
   exact⟨by rw[hE.out];rfl,hbel⟩
end Go.Proofs.YtpcnjncgilmehabGreat.Pg
