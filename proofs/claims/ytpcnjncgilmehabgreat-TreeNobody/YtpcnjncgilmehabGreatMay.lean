import Derived.Test.YtpcnjncgilmehabGreatMax
import Derived.BigRegion
import Derived.Test.YtpcnjncgilmehabGreatMav
import Derived.Test.YtpcnjncgilmehabGreatMaf
import Derived.Deep.QuietTactic
import Derived.BigQuiet
import Derived.Test.YtpcnjncgilmehabGreatMat
set_option linter.unusedVariables false
set_option linter.unusedSimpArgs false
set_option maxRecDepth 100000
namespace Go.Proofs.YtpcnjncgilmehabGreat.Tr
open Go.RowKit
theorem has_any (w:World) (lo hi k:ByteArray):Calls Tryz.prog 191 #[.agg #[.string lo,.string hi],.string k] w fun e w'=>e=.returned (.bool (has lo hi k))/\Below w.heap.size w w':=by
 unfold has Pg.lt
 go_enter Tryz.func191,Tryz.ntmps191
 go_wp2
 all_goals go_ret
 all_goals refine⟨?_,(Below.refl _ _).alloc (Nat.le_refl _) _⟩
 ·rename_i h;simp[h]
 ·rename_i h1 h2;simp[h1,h2]
 ·rename_i h1 h2;simp[h1]
theorem Read_new (t:ByteArray) (w:World):Calls Tryz.prog 94 #[.string t] w fun e w'=>∃ b,e=.returned (.pointer (some ⟨b,0,none⟩))/\Pk.isRd w' b t 0/\w.heap.size<=b/\Below w.heap.size w w':=by
 go_enter Tryz.func94,Tryz.ntmps94
 go_wp2
 go_ret
 exact⟨_,rfl,(MapKept.heap_alloc w _).1,Nat.le_refl _,(Below.refl _ _).alloc (Nat.le_refl _) _⟩
theorem and8:∀ y:Fin 256,bits BinOp.and IntKind.u8 (y.val:Int) 1=((y.val % 2:Nat):Int):=by decide
theorem or8:∀ (y:Fin 256) (i:Fin 8),bits BinOp.or IntKind.u8 (y.val:Int) ((2 ^ i.val:Nat):Int)=((y.val |||2 ^ i.val:Nat):Int):=by decide
theorem uses_cell (w:World) (b off id:Nat) (us:List UInt8) (hid:id / 8<222) (hc:w.cell? ⟨b,off+1+id / 8,none⟩=some (.int .u8 (Pg.g us (id / 8)))):Calls Tryz.prog 53 #[.pointer (some ⟨b,off,none⟩),.int .i64 (id:Int)] w fun e w'=>e=.returned (.bool (uses us id))/\w'=w:=by
 have hb:=Pg.g_lt us (id / 8)
 unfold uses
 generalize Pg.g us (id / 8)=x at *
 go_enter Tryz.func53,Tryz.ntmps53
 go_wp2
 go_ret
 refine⟨?_,rfl⟩
 have h1:x / 2 ^ (id % 8)<256:=Nat.lt_of_le_of_lt (Nat.div_le_self _ _) hb
 have h2:=and8 ⟨_,h1⟩
 have h3:((x:Int) / 2 ^ (id % 8))=((x / 2 ^ (id % 8):Nat):Int):=by simp
 show Ending.returned (Value.bool (bits BinOp.and IntKind.u8 ((x:Int) / 2 ^ (id % 8)) 1==1))=_
 rw[h3,h2,Nat.testBit_eq_decide_div_mod_eq]
 congr 2
 rw[Bool.eq_iff_iff]
 simp
 omega
theorem use_cell (w:World) (b off id x:Nat) (hx:x<256) (hid:id / 8<222) (hc:w.cell? ⟨b,off+1+id / 8,none⟩=some (.int .u8 x)) (hf:w.frozen? ⟨b,off+1+id / 8,none⟩=false):Calls Tryz.prog 31 #[.pointer (some ⟨b,off,none⟩),.int .i64 (id:Int)] w fun e w'=>e=.returned (.tuple #[])/\w'=(w.setCell ⟨b,off+1+id / 8,none⟩ (.int .u8 ((x |||2 ^ (id % 8):Nat):Int))).drew:=by
 have h8:id % 8<8:=Nat.mod_lt _ (by omega)
 have h2:=or8 ⟨x,hx⟩ ⟨id % 8,h8⟩
 dsimp only at h2
 have hp:=pow_lt8 h8
 have h3:((2:Int) ^ (id % 8)) % 256=((2 ^ (id % 8):Nat):Int):=by
  have:((2:Int) ^ (id % 8))=((2 ^ (id % 8):Nat):Int):=by simp
  rw[this]
  generalize 2 ^ (id % 8)=q at *
  omega
 rw[← h2,← h3]
 clear h2 h3 hp h8
 go_enter Tryz.func31,Tryz.ntmps31
 go_region
 all_goals go_wp2
 all_goals go_end0
 all_goals exact⟨rfl,rfl⟩
theorem pgOf_rd (v:ByteArray) (k:ByteArray):(if(Pk.rdEnd (Pk.rdNum v 0 2).2.1 (Pk.rdNum v 0 2).2.2).2≠0 then 0 else(Pk.rdNum v 0 2).1)=pgOf ⟨k,v⟩:=by
 have e1:Pk.rdNumSt v 0 2=(v,0):=by unfold Pk.rdNumSt;rw[if_neg (by omega)]
 unfold Pk.rdNum
 rw[e1]
 dsimp only
 unfold pgOf
 dsimp only
 rcases Nat.lt_or_ge v.size 2 with h |h
 ·rw[Pk.rdRaw_short (by omega) (by omega)]
  rw[if_neg (show ¬ v.size=2 by omega)]
  rfl
 ·rw[Pk.rdRaw_fits (by omega) (by omega)]
  by_cases h2:v.size=2
  ·rw[if_pos h2]
   have e:(v.extract (2:Int).toNat v.size).size=0:=by rw[ByteArray.size_extract];simp;omega
   rw[if_neg (by unfold Pk.rdEnd;rw[e];simp)]
   have e3:v.extract 0 (2:Int).toNat=v:=by
    have:(2:Int).toNat=v.size:=by rw[h2];rfl
    rw[this];simp
   rw[e3]
  ·rw[if_neg h2]
   have e:0<(v.extract (2:Int).toNat v.size).size:=by rw[ByteArray.size_extract];simp;omega
   rw[if_pos (by unfold Pk.rdEnd;rw[if_pos e];simp[Pk.rdFail])]
set_option maxHeartbeats 1000000 in
theorem pageOf_any (w:World) (c:Cl) (hv:c.v.size<=32):Calls Tryz.prog 132 #[.agg #[.string c.k,.string c.v]] w fun e w'=>e=.returned (.int .i64 (pgOf c:Nat))/\Below w.heap.size w w':=by
 have CR:Hid (∀ wx,Calls Tryz.prog 94 #[.string c.v] wx fun e w'=>∃ b,e=.returned (.pointer (some ⟨b,0,none⟩))/\Pk.isRd w' b c.v 0/\wx.heap.size<=b/\Below wx.heap.size wx w'):=fun wx=>Read_new c.v wx
 have CN:Hid (∀ wx b,Pk.isRd wx b c.v 0->Calls Tryz.prog 95 #[.pointer (some ⟨b,0,none⟩),.int .i64 2] wx fun r w'=>r=.returned (.int .i64 (Pk.rdNum c.v 0 2).1)/\Pk.isRd w' b (Pk.rdNum c.v 0 2).2.1 (Pk.rdNum c.v 0 2).2.2/\Pk.Off b wx w'):=fun wx b h=>Pk.Num_any b c.v 0 2 wx (by omega) h
 have hz:(Pk.rdNum c.v 0 2).2.1.size<=140737488351232:=by
  have:(Pk.rdNum c.v 0 2).2.1.size<=c.v.size:=Nat.le_trans (Pk.rdRaw_size _ _ _) (Pk.rdNumSt_size _ _ _)
  omega
 have CE:Hid (∀ wx b,Pk.isRd wx b (Pk.rdNum c.v 0 2).2.1 (Pk.rdNum c.v 0 2).2.2->Calls Tryz.prog 162 #[.pointer (some ⟨b,0,none⟩)] wx fun r w'=>r=.returned (.int .i64 (Pk.rdEnd (Pk.rdNum c.v 0 2).2.1 (Pk.rdNum c.v 0 2).2.2).2)/\Pk.isRd w' b (Pk.rdEnd (Pk.rdNum c.v 0 2).2.1 (Pk.rdNum c.v 0 2).2.2).1 (Pk.rdEnd (Pk.rdNum c.v 0 2).2.1 (Pk.rdNum c.v 0 2).2.2).2/\Pk.Off b wx w'):=fun wx b h=>Pk.End_any b _ _ wx hz h
 have hp:=pgOf_rd c.v c.k
 rw[show(⟨c.k,c.v⟩:Cl)=c from rfl] at hp
 have HP:Hid _:=hp
 clear hp hz hv
 generalize pgOf c=P at *
 generalize (Pk.rdEnd (Pk.rdNum c.v 0 2).2.1 (Pk.rdNum c.v 0 2).2.2).1=s2 at *
 generalize (Pk.rdEnd (Pk.rdNum c.v 0 2).2.1 (Pk.rdNum c.v 0 2).2.2).2=e2 at *
 generalize (Pk.rdNum c.v 0 2).2.1=s1 at *
 generalize (Pk.rdNum c.v 0 2).2.2=e1 at *
 generalize (Pk.rdNum c.v 0 2).1=n at *
 go_enter Tryz.func132,Tryz.ntmps132
 go_wp2_with (first
  | (go_at_call 94;refine(CR.out _).mono ?_;rintro e w1 ⟨rb,rfl,r1,g1,b1⟩)
  | (go_at_call 95;refine(CN.out _ _ r1).mono ?_;clear r1;rintro e w2 ⟨rfl,r2,o2⟩)
  | (go_at_call 162;refine(CE.out _ _ r2).mono ?_;rintro e w3 ⟨rfl,r3,o3⟩))
 all_goals go_ret
 all_goals (
  have s1:=b1.size
  have s0:w.heap.size<=(w.alloc (Obj.cells #[Value.string c.k,Value.string c.v] 23)).heap.size:=((Below.refl w.heap.size w).alloc (Nat.le_refl _) _).size
  have q1:=o2.size
  have hB:Below w.heap.size w w3:=((((Below.refl w.heap.size w).alloc (Nat.le_refl _) _).trans (b1.mono s0)).trans (o2.below (by omega) (by omega))).trans (o3.below (by omega) (by omega)))
 ·refine⟨?_,hB⟩
  have hh:=HP.out
  rw[if_pos (by simpa using ‹(e2 !=0)=true›)] at hh
  rw[← hh];rfl
 ·refine⟨?_,hB⟩
  have hh:=HP.out
  rw[if_neg (by simpa using ‹(e2 !=0)=false›)] at hh
  rw[← hh];rfl
end Go.Proofs.YtpcnjncgilmehabGreat.Tr
namespace Go.Proofs.YtpcnjncgilmehabGreat.Pg
open Go.RowKit
section
variable {w:World}{b:Nat}{s:List UInt8}
theorem cells_new (w:World) (h:Sh w b s) (hr:Right s):Calls Tryz.prog 167 #[.pointer (some ⟨b,0,none⟩)] w fun e w'=>∃ a,e=.returned (.slice (some ⟨a,0,none⟩) (cnt s) (cnt s))/\Laid w' a (cnt s) (cnt s) (cells s)/\w.heap.size<=a/\Below w.heap.size w w':=by
 have C1:Hid (∀ w,Sh w b s->Calls Tryz.prog 129 #[.pointer (some ⟨b,0,none⟩)] w fun e w'=>e=.returned (.int .i64 (cnt s))/\w'=w):=fun w h=>count_any w h
 have H:Hid _:=h
 have hd:=hr.head
 have hn:=hd.slotlt
 have hmk:=make_cells (cnt s) (by omega)
 have hbl:=h.lt
 clear h
 go_enter Tryz.func167,Tryz.ntmps167
 go_wp2_with (go_at_call 129;refine(C1.out _ H.out).mono ?_;rintro e w' ⟨rfl,rfl⟩)
 go_loopw [10] (fun kv wr=>∃ i:Nat,kv=.int .i64 (i:Int)/\i<=cnt s/\Laid wr w'.heap.size (cnt s) i (cells s)/\Below w'.heap.size w' wr) (fun kv _=>cnt s-(intOf kv).toNat)
 case atStart=>exact⟨0,rfl,Nat.zero_le _,⟨⟨_,(MapKept.heap_alloc w' _).1,by simp[zc,size_madeCells],fun j _ hj=>absurd hj (Nat.not_lt_zero _)⟩⟩,(Below.refl _ _).alloc (Nat.le_refl _) _⟩
 case round =>
  obtain⟨i,rfl,hi,hL,hbel⟩:=hrel
  by_cases hlt:i<cnt s
  ·have hltI:(i:Int)<(cnt s:Int):=by omega
   have he:en s<=223:=by have:=hd.enn;omega
   have C3:Hid (∀ w,Sh w b s->Calls Tryz.prog 185 #[.pointer (some ⟨b,0,none⟩),.int .i64 (i:Int)] w fun e w'=>e=.returned (.agg #[.string (cell s i).k,.string (cell s i).v])/\Below w.heap.size w w'):=fun w h=>cell_any w h i (by omega) (hr.ok i hlt).at_ he
   have HS:Hid (Sh wr b s):=H.out.below hbel
   have hcg:Hid ((cells s)[i]'(by rw[cells_length];exact hlt)=cell s i):=(cells_get' (by rw[cells_length];exact hlt):(cells s)[i]'(by rw[cells_length];exact hlt)=cell s i)
   have HL:Hid _:=hL
   obtain⟨c,hc⟩:∃ c,c=cell s i:=⟨_,rfl⟩
   rw[← hc] at C3 hcg
   clear hL hc hmk
   go_wp2_with (first |(go_at_call 185;refine(C3.out _ HS.out).mono ?_;rintro e w2 ⟨rfl,hb2⟩;have hL2:=HL.out.below hb2) |(refine wpList_cell_put _ rfl _ _ rfl rfl rfl (hL2.there hlt) ?_))
   go_roundw
   case rel =>
    have hz:=hbel.size
    exact⟨i+1,by go_num,by omega,hL2.put hlt (by rw[cells_length];exact hlt) _ _ (by rw[hcg.out]) (by rw[hcg.out]),((hbel.trans (hb2.mono hz)).setCell (Nat.le_refl _) _).setCell (Nat.le_refl _) _⟩
   case measure=>simp[intOf];omega
  ·have hie:i=cnt s:=by omega
   subst hie
   have hlt':¬ (cnt s:Int)<(cnt s:Int):=by omega
   have HL:Hid _:=hL
   clear hL hmk
   go_wp2
   go_ret
   exact⟨_,rfl,HL.out,Nat.le_refl _,hbel⟩
end
theorem Cells_new (w:World) (p:ByteArray) (h:Right (bts p)):Calls Tryz.prog 139 #[.string p] w fun e w'=>∃ a,e=.returned (.slice (some ⟨a,0,none⟩) (cnt (bts p)) (cnt (bts p)))/\Laid w' a (cnt (bts p)) (cnt (bts p)) (cells (bts p))/\w.heap.size<=a/\Below w.heap.size w w':=by
 have hTl:(bts p).length=224:=h.head.len
 have CR:Hid (∀ w,Calls Tryz.prog 81 #[.string p] w fun e w'=>e=.returned (.tuple #[pgV (bts p),.bool true])/\Below w.heap.size w w'):=fun w=>read_right w p h
 have C2:Hid (∀ w b,Sh w b (bts p)->Calls Tryz.prog 167 #[.pointer (some ⟨b,0,none⟩)] w fun e w'=>∃ a,e=.returned (.slice (some ⟨a,0,none⟩) (cnt (bts p)) (cnt (bts p)))/\Laid w' a (cnt (bts p)) (cnt (bts p)) (cells (bts p))/\w.heap.size<=a/\Below w.heap.size w w'):=fun w b h'=>cells_new w h' h
 clear h
 generalize bts p=T at *
 go_enter Tryz.func139,Tryz.ntmps139
 go_wp2_with (first |(go_at_call 81;refine(CR.out _).mono ?_;rintro e w1 ⟨rfl,hb1⟩) |(refine wpList_new_sh _ rfl rfl ?_;intro w2 b2 N2) |(refine wpList_put_sh _ rfl _ _ rfl rfl (t:=T) rfl N2.sh hTl ?_;intro w3 P3) |(go_at_call 167;refine(C2.out _ _ P3.sh).mono ?_;rintro e w4 ⟨a,rfl,hc4,ha4,hb4⟩))
 go_ret
 have hoo:=opened hb1 N2 P3
 have hos:=hoo.size
 exact⟨_,rfl,hc4,by omega,thn hoo hb4⟩
end Go.Proofs.YtpcnjncgilmehabGreat.Pg
namespace Go.Proofs.YtpcnjncgilmehabGreat.Tr
open Go.RowKit
theorem cellOf_any (w:World) (k:ByteArray) (id:Nat) (hid:id<65536):Calls Tryz.prog 172 #[.string k,.int .i64 (id:Int)] w fun e w'=>e=.returned (.agg #[.string (cellOf k id).k,.string (cellOf k id).v])/\Below w.heap.size w w':=by
 have CP:Hid (∀ wx,Calls Tryz.prog 116 #[.string eb,.int .i64 (id:Int),.int .i64 2] wx fun e w'=>e=.returned (.tuple #[.string (Pk.beS id 2),.int .i64 0])/\Below wx.heap.size wx w'):=fun wx=>by
  have:=Pk.Put_any eb (id:Int) 2 wx (Nat.zero_le _)
  rw[Pk.putV_fits (by omega) (by rw[Pk.limI_2];omega)] at this
  dsimp only at this
  rw[Sm.nil_append] at this
  exact this
 unfold cellOf
 dsimp only
 generalize Pk.beS id 2=t at *
 go_enter Tryz.func172,Tryz.ntmps172
 go_wp2_with (first
  | (refine Pg.wpList_new_cb _ rfl rfl ?_;intro w0 b0 N0)
  | (go_at_call 116;refine(CP.out _).mono ?_;rintro e w1 ⟨rfl,b1⟩)
  | (refine Pg.wpList_put_cb _ rfl _ _ rfl rfl rfl (N0.cb.below b1) ?_;intro w4 P4))
 refine bodyPost_ret (results_cell_row rfl _ _ b0 23 _ (0,0) _ rfl P4.cb.blk Tryz.underlying23 rfl Pg.info_cell) rfl ?_
 have z0:=N0.below.size
 have z1:=b1.size
 exact⟨rfl,(thn N0.below b1).trans (P4.below N0.le (by omega))⟩
structure SlW (W:Nat->Prop) (w:World) (v:Value) (L:List Cl):Prop where
 ex:∃ a cap,v=.slice a L.length cap/\Pg.Sl w a cap L/\∀ b o,a=some ⟨b,o,none⟩->L≠[]->¬ W b
theorem SlW.one {W:Nat->Prop} {w:World} {v:Value} {L:List Cl} (h:SlW W w v L):v.oneCell'=true:=by obtain⟨a,c,rfl,_⟩:=h.ex;rfl
theorem SlW.below {W:Nat->Prop} {w w':World} {v:Value} {L:List Cl} (h:SlW W w v L) (hb:Below w.heap.size w w'):SlW W w' v L:=by
 obtain⟨a,c,h0,h1,h2⟩:=h.ex;exact⟨a,c,h0,h1.below hb,h2⟩
structure NdV (W:Nat->Prop) (w:World) (v:Nv) (n:Nd):Prop where
 id:v.id=(n.id:Int)
 tx:v.tx=n.tx
 lv:v.lv=(n.lv:Int)
 lo:v.lo=n.lo
 hi:v.hi=n.hi
 nx:v.nx=(n.nx:Int)
 sl:SlW W w v.sl n.cl
theorem NdV.below {W:Nat->Prop} {w w':World} {v:Nv} {n:Nd} (h:NdV W w v n) (hb:Below w.heap.size w w'):NdV W w' v n:=⟨h.id,h.tx,h.lv,h.lo,h.hi,h.nx,h.sl.below hb⟩
theorem toward_any (w:World) (b:Nat) (v:Nv) (hv:NdAt w b v) (k:ByteArray) (hr:Pg.Right (Pg.bts v.tx)) (h0:Pg.isAt (cs v.tx) k=false->0<Pg.plc (cs v.tx) k):Calls Tryz.prog 83 #[.pointer (some ⟨b,0,none⟩),.string k] w fun e w'=>e=.returned (.int .i64 (tow (cs v.tx) k:Nat))/\Below w.heap.size w w':=by
 have CF:Hid (∀ wx,Calls Tryz.prog 46 #[.string v.tx,.string k] wx fun e w'=>e=.returned (.tuple #[.int .i64 (Pg.plc (cs v.tx) k:Nat),.bool (Pg.isAt (cs v.tx) k)])/\Below wx.heap.size wx w'):=fun wx=>Pg.Find_right wx v.tx k hr
 have c1:=hv.c1
 have hle:Pg.plc (cs v.tx) k<=1000:=by
  have h1:=Pg.plc_le (cs v.tx) k
  have h2:=hr.small.len
  unfold cs at *
  omega
 unfold tow
 generalize Pg.isAt (cs v.tx) k=q at *
 generalize Pg.plc (cs v.tx) k=p at *
 clear hv hr
 generalize v.tx=t at *
 cases q with
 | true =>
  go_enter Tryz.func83,Tryz.ntmps83
  go_wp2_with (go_at_call 46;refine(CF.out _).mono ?_;rintro e w1 ⟨rfl,b1⟩)
  go_ret
  exact⟨rfl,b1⟩
 | false =>
  have hp:=h0 rfl
  have e2:((p:Int)-1)=((p-1:Nat):Int):=by omega
  go_enter Tryz.func83,Tryz.ntmps83
  go_wp2_with (go_at_call 46;refine(CF.out _).mono ?_;rintro e w1 ⟨rfl,b1⟩)
  go_ret
  refine⟨?_,b1⟩
  simp
theorem info_span:(Tryz.prog.info? 96).map (·.size)=some 2:=by kernel_rfl
theorem below_any {W:Nat->Prop} (w:World) (b:Nat) (v:Nv) (hv:NdAt w b v) (L:List Cl) (hs:SlW W w v.sl L) (i:Nat) (hi:i<L.length) (hl:L.length<=1000):Calls Tryz.prog 133 #[.pointer (some ⟨b,0,none⟩),.int .i64 (i:Int)] w fun e w'=>e=.returned (.agg #[.string (bLo L v.lo i),.string (bHi L v.hi i)])/\Below w.heap.size w w':=by
 obtain⟨a,cap,e,hsl,_⟩:=hs.ex
 have c3:=hv.c3
 rw[e] at c3
 have c4:=hv.c4
 have c5:=hv.c5
 have hcs:=hsl.cs
 have hlt:=hv.lt
 clear hs hsl e hv
 obtain⟨b',off,rfl,hb,k0,k1⟩:=hcs.at_ i hi
 unfold bLo bHi
 have g1:(L.getD i ⟨eb,eb⟩)=L[i]:=by simp[hi]
 rw[g1]
 clear g1
 generalize v.lo=lo at *
 generalize v.hi=hh at *
 by_cases h0:0<i
 ·rw[if_pos h0]
  have h0I:(0:Int)<(i:Int):=by omega
  by_cases h1:i+1<L.length
  ·rw[if_pos h1]
   have h1I:(i:Int)+1<(L.length:Int):=by omega
   have g2:(L.getD (i+1) ⟨eb,eb⟩)=L[i+1]:=by simp[h1]
   rw[g2]
   obtain⟨b2,off2,e2,hb2,m0,m1⟩:=hcs.at_ (i+1) h1
   cases e2
   clear hcs g2
   generalize L[i+1].k=y at *
   generalize L[i].k=x at *
   go_enter Tryz.func133,Tryz.ntmps133
   go_wp2
   refine bodyPost_ret (results_cell_row rfl _ _ w.heap.size 96 #[.string x,.string y] (0,0) _ rfl ((heap_alloc_old (w.alloc _) _ (by simp)).trans (MapKept.heap_alloc w _).1) Tryz.underlying96 rfl info_span) rfl ?_
   exact⟨rfl,((Below.refl _ _).alloc (Nat.le_refl _) _).alloc (by simp) _⟩
  ·rw[if_neg h1]
   have h1I:¬ ((i:Int)+1<(L.length:Int)):=by omega
   clear hcs
   generalize L[i].k=x at *
   go_enter Tryz.func133,Tryz.ntmps133
   go_wp2
   refine bodyPost_ret (results_cell_row rfl _ _ w.heap.size 96 #[.string x,.string hh] (0,0) _ rfl ((heap_alloc_old (w.alloc _) _ (by simp)).trans (MapKept.heap_alloc w _).1) Tryz.underlying96 rfl info_span) rfl ?_
   exact⟨rfl,((Below.refl _ _).alloc (Nat.le_refl _) _).alloc (by simp) _⟩
 ·rw[if_neg h0]
  have h0I:¬ ((0:Int)<(i:Int)):=by omega
  by_cases h1:i+1<L.length
  ·rw[if_pos h1]
   have h1I:(i:Int)+1<(L.length:Int):=by omega
   have g2:(L.getD (i+1) ⟨eb,eb⟩)=L[i+1]:=by simp[h1]
   rw[g2]
   obtain⟨b2,off2,e2,hb2,m0,m1⟩:=hcs.at_ (i+1) h1
   cases e2
   clear hcs g2
   generalize L[i+1].k=y at *
   generalize L[i].k=x at *
   go_enter Tryz.func133,Tryz.ntmps133
   go_wp2
   refine bodyPost_ret (results_cell_row rfl _ _ w.heap.size 96 #[.string lo,.string y] (0,0) _ rfl ((heap_alloc_old (w.alloc _) _ (by simp)).trans (MapKept.heap_alloc w _).1) Tryz.underlying96 rfl info_span) rfl ?_
   exact⟨rfl,((Below.refl _ _).alloc (Nat.le_refl _) _).alloc (by simp) _⟩
  ·rw[if_neg h1]
   have h1I:¬ ((i:Int)+1<(L.length:Int)):=by omega
   clear hcs
   generalize L[i].k=x at *
   go_enter Tryz.func133,Tryz.ntmps133
   go_wp2
   refine bodyPost_ret (results_cell_row rfl _ _ w.heap.size 96 #[.string lo,.string hh] (0,0) _ rfl ((heap_alloc_old (w.alloc _) _ (by simp)).trans (MapKept.heap_alloc w _).1) Tryz.underlying96 rfl info_span) rfl ?_
   exact⟨rfl,((Below.refl _ _).alloc (Nat.le_refl _) _).alloc (by simp) _⟩
theorem told_leaf {t:ByteArray} (h:kd t=1):told t=cs t:=if_pos h
theorem told_inner {t:ByteArray} (h:kd t=2):told t=(cs t).tail:=if_neg (by omega)
set_option maxHeartbeats 1000000 in
theorem isRight_leaf {W:Nat->Prop} (w:World) (b:Nat) (v:Nv) (hv:NdAt w b v) (hs:SlW W w v.sl (cs v.tx)) (hg:Good v.tx v.lo v.hi) (hk:kd v.tx=1):Calls Tryz.prog 140 #[.pointer (some ⟨b,0,none⟩)] w fun e w'=>e=.returned (.bool true)/\Below w.heap.size w w':=by
 have CK:Hid (∀ wx,Calls Tryz.prog 190 #[.string v.tx] wx fun e w'=>e=.returned (.int .i64 1)/\Below wx.heap.size wx w'):=fun wx=>by
  have:=Pg.Kind_right wx v.tx hg.right
  rw[show Pg.g (Pg.bts v.tx) 0=1 from hk] at this
  exact this
 have CH:Hid (∀ wx (i:Nat) (hi:i<(cs v.tx).length),Calls Tryz.prog 191 #[.agg #[.string v.lo,.string v.hi],.string ((cs v.tx)[i]).k] wx fun e w'=>e=.returned (.bool true)/\Below wx.heap.size wx w'):=fun wx i hi=>by
  have h1:=has_any wx v.lo v.hi ((cs v.tx)[i]).k
  rw[hg.keys _ (by rw[told_leaf hk];exact List.getElem_mem hi)] at h1
  exact h1
 have hl:(cs v.tx).length<=1000:=hg.right.small.len
 obtain⟨a,cap,e,hsl,_⟩:=hs.ex
 have hcs:=hsl.cs
 have HV:Hid (NdAt w b v):=hv
 have c3:=hv.c3
 rw[e] at c3
 have c1:=hv.c1
 have hlt:=hv.lt
 clear hs hsl e hg hk hv
 generalize cs v.tx=L at *
 go_enter Tryz.func140,Tryz.ntmps140
 go_wp2_with (go_at_call 190;refine(CK.out _).mono ?_;rintro e w1 ⟨rfl,b1⟩)
 go_loopw [40] (fun kv wr=>∃ i:Nat,kv=.int .i64 (i:Int)/\i<=L.length/\Below w.heap.size w wr) (fun kv _=>L.length-(intOf kv).toNat)
 case atStart=>exact⟨0,rfl,Nat.zero_le _,b1⟩
 case round =>
  obtain⟨i,rfl,hi,hbel⟩:=hrel
  by_cases hil:i<L.length
  ·have hltI:(i:Int)<(L.length:Int):=by omega
   obtain⟨b',off,rfl,hb,k0,k1⟩:=hcs.at' hbel hil
   have CH':Hid (∀ wx,Calls Tryz.prog 191 #[.agg #[.string v.lo,.string v.hi],.string (L[i]).k] wx fun e w'=>e=.returned (.bool true)/\Below wx.heap.size wx w'):=fun wx=>CH.out wx i hil
   have hvr:=HV.out.below hbel
   have d4:=hvr.c4
   have d5:=hvr.c5
   have dl:=hvr.lt
   generalize L[i]=c at *
   have hbs:=hbel.size
   go_wp2_with (first
    | (refine Pg.wpList_new_cb _ rfl rfl ?_;intro w5 b5 N5;have hbl5:=N5.le;have hz5:=N5.below.size)
    | (refine Pg.wpList_put_cb _ rfl _ _ rfl rfl rfl N5.cb ?_;intro w6 P6;have f0:=P6.cb.c0))
   have hz6:=P6.off.size
   have hb6:Below w.heap.size w w6:=(hbel.trans (N5.below.mono hbs)).trans (P6.below (by omega) (by omega))
   have hv6:=HV.out.below hb6
   have e4:=hv6.c4
   have e5:=hv6.c5
   have HP6:Hid (Pg.PutC w5 w6 b5 c.k c.v):=P6
   clear N5 P6 d4 d5 k0 k1 c1 c3 CH
   go_region_held3 (fun W=>W.cell? ⟨b,4,none⟩=some (.string v.lo)/\W.cell? ⟨b,5,none⟩=some (.string v.hi)/\W.cell? ⟨b5,0,none⟩=some (.string c.k)) (first |exact keep7 |go_keep) ((go_at_call 191;refine(CH'.out _).mono ?_;rintro e w7 ⟨rfl,b7⟩;have hb7:Below w6.heap.size w6 w7:=((Below.refl _ _).drew).trans b7;have keep7:w7.cell? ⟨b,4,none⟩=some (.string v.lo)/\w7.cell? ⟨b,5,none⟩=some (.string v.hi)/\w7.cell? ⟨b5,0,none⟩=some (.string c.k):=⟨(hv6.below hb7).c4,(hv6.below hb7).c5,(HP6.out.cb.below hb7).c0⟩))
   go_wp2
   go_roundw
   case rel=>exact⟨i+1,by go_num,by omega,hb6.trans (hb7.mono hb6.size)⟩
   case measure=>simp[intOf];omega
  ·have hie:i=L.length:=by omega
   subst hie
   have hlt':¬ (L.length:Int)<(L.length:Int):=by omega
   go_wp2
   go_ret
   exact⟨rfl,hbel⟩
set_option maxHeartbeats 1000000 in
theorem isRight_inner {W:Nat->Prop} (w:World) (b:Nat) (v:Nv) (hv:NdAt w b v) (hs:SlW W w v.sl (cs v.tx)) (hg:Good v.tx v.lo v.hi) (hk:kd v.tx=2) (hlvv:v.lv=(lvl v.tx:Int)):Calls Tryz.prog 140 #[.pointer (some ⟨b,0,none⟩)] w fun e w'=>e=.returned (.bool true)/\Below w.heap.size w w':=by
 have CK:Hid (∀ wx,Calls Tryz.prog 190 #[.string v.tx] wx fun e w'=>e=.returned (.int .i64 2)/\Below wx.heap.size wx w'):=fun wx=>by
  have:=Pg.Kind_right wx v.tx hg.right
  rw[show Pg.g (Pg.bts v.tx) 0=2 from hk] at this
  exact this
 have CH:Hid (∀ wx (i:Nat) (hi:i<((cs v.tx).drop 1).length),Calls Tryz.prog 191 #[.agg #[.string v.lo,.string v.hi],.string (((cs v.tx).drop 1)[i]).k] wx fun e w'=>e=.returned (.bool true)/\Below wx.heap.size wx w'):=fun wx i hi=>by
  have h1:=has_any wx v.lo v.hi (((cs v.tx).drop 1)[i]).k
  rw[hg.keys _ (by rw[told_inner hk,← List.drop_one];exact List.getElem_mem hi)] at h1
  exact h1
 have hl:(cs v.tx).length<=1000:=hg.right.small.len
 have hne:cs v.tx≠[]:=by
  rcases hg.kind with h |h
  ·omega
  ·exact h.2.2.1
 have hfst:((cs v.tx).getD 0 ⟨eb,eb⟩).k=eb:=by
  rcases hg.kind with h |h
  ·omega
  ·exact h.2.2.2
 have hlv:lvl v.tx≠0:=by
  rcases hg.kind with h |h
  ·omega
  ·exact h.2.1
 obtain⟨a,cap,e,hsl,_⟩:=hs.ex
 have hpos:0<(cs v.tx).length:=List.length_pos_iff.2 hne
 obtain⟨bx,offx,ex,hbx,q0,q1⟩:=hsl.cs.at_ 0 hpos
 have q2:((cs v.tx)[0]).k=eb:=by
  rw[← hfst];simp[hpos]
 rw[q2] at q0
 subst ex
 obtain⟨a1,s1,t1⟩:=hsl.from 1 1 rfl hpos
 have hcs:=t1.cs
 have hL1:((cs v.tx).drop 1).length=(cs v.tx).length-1:=List.length_drop
 have hlv2:((lvl v.tx:Int)==0)=false:=by simpa using hlv
 have hpos2:(((cs v.tx).length:Int)==0)=false:=by simp;exact hne
 have c2:=hv.c2
 rw[hlvv] at c2
 have HV:Hid (NdAt w b v):=hv
 have c3:=hv.c3
 rw[e] at c3
 have c1:=hv.c1
 have hlt:=hv.lt
 clear hs hsl e hg hk hv hne hfst hlv t1 q2 hlvv
 generalize hLL:cs v.tx=L0 at *
 clear hLL
 generalize hM:L0.drop 1=L at *
 generalize lvl v.tx=lv at *
 have HM:Hid (L0.drop 1=L):=hM
 clear hM
 have hl1:L.length<=1000:=by omega
 rw[← hL1] at s1
 have hL0:Hid (L.length=L0.length-1):=hL1
 clear hL1
 go_enter Tryz.func140,Tryz.ntmps140
 have HC2:Hid (∀ wx,Below w.heap.size w wx->wx.cell? ⟨b,2,none⟩=some (.int .i64 (lv:Int))):=fun wx h=>(h.cell hlt).trans c2
 have HQ0:Hid (∀ wx,Below w.heap.size w wx->wx.cell? ⟨bx,offx+0*2,none⟩=some (.string eb)):=fun wx h=>(h.cell hbx).trans q0
 clear q0 q1 c2
 go_wp2_with (go_at_call 190;refine(CK.out _).mono ?_;rintro e w1 ⟨rfl,b1⟩;have g2:=HC2.out _ b1;have g3:=HQ0.out _ b1;rw[Nat.zero_mul,Nat.add_zero] at g3)
 go_loopw [40] (fun kv wr=>∃ i:Nat,kv=.int .i64 (i:Int)/\i<=L.length/\Below w.heap.size w wr) (fun kv _=>L.length-(intOf kv).toNat)
 case atStart=>exact⟨0,rfl,Nat.zero_le _,b1⟩
 case round =>
  obtain⟨i,rfl,hi,hbel⟩:=hrel
  by_cases hil:i<L.length
  ·have hltI:(i:Int)<(L.length:Int):=by omega
   obtain⟨b',off,rfl,hb,k0,k1⟩:=hcs.at' hbel hil
   have CH':Hid (∀ wx,Calls Tryz.prog 191 #[.agg #[.string v.lo,.string v.hi],.string (L[i]).k] wx fun e w'=>e=.returned (.bool true)/\Below wx.heap.size wx w'):=fun wx=>CH.out wx i hil
   have hvr:=HV.out.below hbel
   have d4:=hvr.c4
   have d5:=hvr.c5
   have dl:=hvr.lt
   generalize L[i]=c at *
   have hbs:=hbel.size
   go_wp2_with (first
    | (refine Pg.wpList_new_cb _ rfl rfl ?_;intro w5 b5 N5;have hbl5:=N5.le;have hz5:=N5.below.size)
    | (refine Pg.wpList_put_cb _ rfl _ _ rfl rfl rfl N5.cb ?_;intro w6 P6;have f0:=P6.cb.c0))
   have hz6:=P6.off.size
   have hb6:Below w.heap.size w w6:=(hbel.trans (N5.below.mono hbs)).trans (P6.below (by omega) (by omega))
   have hv6:=HV.out.below hb6
   have e4:=hv6.c4
   have e5:=hv6.c5
   have HP6:Hid (Pg.PutC w5 w6 b5 c.k c.v):=P6
   clear N5 P6 d4 d5 k0 k1 c1 c3 CH
   go_region_held3 (fun W=>W.cell? ⟨b,4,none⟩=some (.string v.lo)/\W.cell? ⟨b,5,none⟩=some (.string v.hi)/\W.cell? ⟨b5,0,none⟩=some (.string c.k)) (first |exact keep7 |go_keep) ((go_at_call 191;refine(CH'.out _).mono ?_;rintro e w7 ⟨rfl,b7⟩;have hb7:Below w6.heap.size w6 w7:=((Below.refl _ _).drew).trans b7;have keep7:w7.cell? ⟨b,4,none⟩=some (.string v.lo)/\w7.cell? ⟨b,5,none⟩=some (.string v.hi)/\w7.cell? ⟨b5,0,none⟩=some (.string c.k):=⟨(hv6.below hb7).c4,(hv6.below hb7).c5,(HP6.out.cb.below hb7).c0⟩))
   go_wp2
   go_roundw
   case rel=>exact⟨i+1,by go_num,by omega,hb6.trans (hb7.mono hb6.size)⟩
   case measure=>simp[intOf];omega
  ·have hie:i=L.length:=by omega
   subst hie
   have hlt':¬ (L.length:Int)<(L.length:Int):=by omega
   go_wp2
   go_ret
   exact⟨rfl,hbel⟩
open Go.RowKit Go.Maps Go.ChangeMaps
structure Fr (W W':Nat->Prop) (w w':World):Prop where
 os:w'.os=w.os
 tape:w'.tape=w.tape
 output:w'.output=w.output
 size:w.heap.size<=w'.heap.size
 blk:∀ j,j<w.heap.size->¬ W j->w'.heap[j]?=w.heap[j]?
 sub:∀ j,W' j->W j∨w.heap.size<=j
section
variable {W W' W2:Nat->Prop}{w w' w2:World}
theorem Fr.refl (W:Nat->Prop) (w:World):Fr W W w w:=⟨rfl,rfl,rfl,Nat.le_refl _,fun _ _ _=>rfl,fun _ h=>Or.inl h⟩
theorem Fr.trans (h:Fr W W' w w') (k:Fr W' W2 w' w2):Fr W W2 w w2:=⟨k.os.trans h.os,k.tape.trans h.tape,k.output.trans h.output,Nat.le_trans h.size k.size,fun j hj hn=>(k.blk j (Nat.lt_of_lt_of_le hj h.size) (fun e=>(h.sub j e).elim hn (fun e2=>by omega))).trans (h.blk j hj hn),fun j hj=>by
 rcases k.sub j hj with e |e
 ·exact h.sub j e
 ·exact Or.inr (Nat.le_trans h.size e)⟩
theorem Fr.of_below (h:Below w.heap.size w w') (W:Nat->Prop):Fr W W w w':=⟨h.os,h.tape,h.output,h.size,fun j hj _=>h.block j hj,fun _ h=>Or.inl h⟩
theorem Fr.below (h:Fr W W' w w') (k:Below w'.heap.size w' w2):Fr W W' w w2:=h.trans (Fr.of_below k W')
theorem Fr.cell (h:Fr W W' w w') {p:Addr} (hp:p.block<w.heap.size) (hn:¬ W p.block):w'.cell? p=w.cell? p:=World.cell?_of_block (h.blk _ hp hn)
theorem Fr.is (h:Fr W W' w w') {j:Nat} {o:Obj} (hj:w.heap[j]?=some o) (hn:¬ W j):w'.heap[j]?=some o:=(h.blk j (lt_of_some hj) hn).trans hj
theorem Fr.not (h:Fr W W' w w') {j:Nat} (hj:j<w.heap.size) (hn:¬ W j):¬ W' j:=fun e=>(h.sub j e).elim hn (fun e2=>by omega)
end
structure Px where
 k:Nat
 S:Dk
 C:Cf
 sure:Nat
 G:Gp
 st:Nat->Option Nat
 pn:Nat->Nat
 pg:Nat->Option Nat
structure Sw (B:Nat) (w:World) (X:Ad) (P:Px) (W:Nat->Prop):Prop where
 lt:∀ j,W j->j<w.heap.size
 sb:W X.sb
 go:∀ (I:Inhabited PrSet) (w':World),(∀ j,W j->w'.heap[j]?=w.heap[j]?)->w.heap.size<=w'.heap.size->(∀ j,W j->@np I j)->@Ltp I w'->@Pv I B w' X P.k P.S P.C P.sure P.G P.st P.pn P.pg
section
variable {B:Nat}{w w':World}{X:Ad}{P:Px}{W:Nat->Prop}
theorem Sw.turn (h:Sw B w X P W) (hO:∀ j,W j->w'.heap[j]?=w.heap[j]?) (hs:w.heap.size<=w'.heap.size):Sw B w' X P W :=
 ⟨fun j hj=>Nat.lt_of_lt_of_le (h.lt j hj) hs,h.sb,fun I w2 h1 h2 h3 h4=>h.go I w2 (fun j hj=>(h1 j hj).trans (hO j hj)) (Nat.le_trans hs h2) h3 h4⟩
theorem Sw.below (h:Sw B w X P W) (hb:Below w.heap.size w w'):Sw B w' X P W:=h.turn (fun j hj=>hb.block j (h.lt j hj)) hb.size
end
section
variable {B n:Nat}{w w':World}{v:Value}{xs:List Value}{ps:List Int}
theorem ownF_at2 (h:w.ownsRowF B 5 1 v n xs) (hb:∀ g,v.ownBlock=some g->w'.heap[g]?=w.heap[g]?):w'.ownsRowF B 5 1 v n xs:=by
 refine⟨h.1,?_⟩
 rcases h.2 with hn |⟨g,cap,cur,fz,hv,hbg,hg,rest⟩
 ·exact .inl hn
 ·exact .inr ⟨g,cap,cur,fz,hv,hbg,(hb g (by rw[hv];rfl)).trans hg,rest⟩
theorem ownI_at (h:OwnI B w v ps) (hb:∀ g,v.ownBlock=some g->w'.heap[g]?=w.heap[g]?):OwnI B w' v ps:=by
 obtain⟨h1,h2⟩:=h.row
 refine⟨h1,?_⟩
 rcases h2 with h2 |⟨g,cap,cur,e,hB,hg,h3⟩
 ·exact Or.inl h2
 ·exact Or.inr ⟨g,cap,cur,e,hB,(hb g (by rw[e];rfl)).trans hg,h3⟩
theorem ownI_lt (h:OwnI B w v ps) {g:Nat} (e:v.ownBlock=some g):g<w.heap.size:=by
 obtain⟨h1,h2⟩:=h.row
 rcases h2 with⟨h2,_⟩ |⟨g',cap,cur,e',hB,hg,h3⟩
 ·rw[h2] at e;cases e
 ·rw[e'] at e
  have:g'=g:=by simpa[Value.ownBlock] using e
  subst this
  exact lt_of_some hg
end
theorem pv_sup {I:Inhabited PrSet} {B:Nat} {w:World} {X:Ad} {k:Nat} {S:Dk} {C:Cf} {sure:Nat} {G:Gp} {st pg:Nat->Option Nat} {pn:Nat->Nat} (h:@Pv I B w X k S C sure G st pn pg) :
  ∃ W:Nat->Prop,(∀ j,W j->@np I j)/\Sw B w X ⟨k,S,C,sure,G,st,pn,pg⟩ (fun j=>W j∨j=X.sb):=by
 have hd:=h.q.lv.lx.d
 have hg:=h.q.lv.lx.g
 have hp:=h.q.po
 obtain⟨lb,mb,m,d1,d2,d3,d4⟩:=hd.dsk
 obtain⟨p,v,pv,h1,h2,h3,h4,n3,n4⟩:=hg.ex
 obtain⟨cur,fz,e,hc⟩:=hp.row
 have g3:=d3.ge
 have g4:=d4.ge
 have dq:=hd.q
 have dg:=hd.hd.ge
 have dl:=hd.lt
 have gg:=hg.ge.ge
 have gl:=hg.le
 have pb1:=hp.blk
 have pf:=hp.fr
 have pi:=hp.inj
 have pn1:=hp.n1
 have pn2:=hp.n2
 have pg1:=hp.gp.ge
 have pgf:∀ j,j<X.n->B<=X.fb j:=fun j hj=>(hp.gf j hj).ge
 have ph0:=hp.h0
 have ph1:=hp.h1
 have vu:=h.q.lv.up
 have vf:=h.q.lv.fit
 have vs:=h.q.lv.hs
 have vn:=h.q.lv.n
 have vr:=h.q.lv.r2
 have vq:=h.q.lv.q
 have sb1:=h.q.st.blk
 have qn1:=h.q.n
 have qo:=h.q.ok
 have vp:=h.p
 have v1:=h.v.us
 have v2:=h.v.un
 have v3:=h.v.ds
 have v4:=h.v.cl
 have v5:=h.v.pl
 have v6:=h.v.sl
 have v7:=h.v.np
 refine⟨fun j=>j=X.db∨j=lb∨j=mb∨j=X.l∨v.ownBlock=some j∨pv.ownBlock=some j∨j=X.pb∨j=X.ra∨(∃ i,i<X.n/\j=X.fb i),?_,?_,Or.inr rfl,?_⟩
 ·rintro j (rfl |rfl |rfl |rfl |e2 |e2 |rfl |rfl |⟨i,hi,rfl⟩)
  ·exact hd.hd.np
  ·exact d3.np
  ·exact d4.np
  ·exact hg.ge.np
  ·exact n3 j e2
  ·exact n4 j e2
  ·exact hp.gp.np
  ·exact hp.gr
  ·exact(hp.gf i hi).np
 ·rintro j ((rfl |rfl |rfl |rfl |e2 |e2 |rfl |rfl |⟨i,hi,rfl⟩) |rfl)
  ·exact lt_of_some d1.blk
  ·obtain⟨c2,f2,e2⟩:=d1.row.ty;exact lt_of_some e2
  ·obtain⟨c2,f2,e2⟩:=d1.map.is;exact lt_of_some e2
  ·exact lt_of_some h1
  ·exact(h3.lt j e2).2
  ·exact ownI_lt h4 e2
  ·exact hp.lt
  ·exact lt_of_some e
  ·exact hp.flt hi
  ·exact lt_of_some h.q.st.blk
 ·clear h hd hg hp d3 d4 n3 n4
  intro I' w' hO' hs hW' hL
  have hO:∀ j,(j=X.db∨j=lb∨j=mb∨j=X.l∨v.ownBlock=some j∨pv.ownBlock=some j∨j=X.pb∨j=X.ra∨(∃ i,i<X.n/\j=X.fb i))->w'.heap[j]?=w.heap[j]?:=fun j hj=>hO' j (Or.inl hj)
  have hW:∀ j,(j=X.db∨j=lb∨j=mb∨j=X.l∨v.ownBlock=some j∨pv.ownBlock=some j∨j=X.pb∨j=X.ra∨(∃ i,i<X.n/\j=X.fb i))->@np I' j:=fun j hj=>hW' j (Or.inl hj)
  have D:DkIs w' X.db lb mb m S:=⟨(hO _ (Or.inl rfl)).trans d1.blk,d1.row.of_block (hO _ (Or.inr (Or.inl rfl))) hs,d1.map.of_block (hO _ (Or.inr (Or.inr (Or.inl rfl)))),d1.ne⟩
  have Dn:@Ds I' B w' X.db k S:=@Ds.mk I' _ _ _ _ _ ⟨lb,mb,m,D,d2,@Ow.mk I' _ _ g3 (hW _ (Or.inr (Or.inl rfl))),@Ow.mk I' _ _ g4 (hW _ (Or.inr (Or.inr (Or.inl rfl))))⟩ dq (@Ow.mk I' _ _ dg (hW _ (Or.inl rfl))) (Nat.le_trans dl hs) hL
  have Ln:@LrIs I' B w' X.l (lgR X.db C.lb C.sc C.run C.fs (off C.fs sure) false):=@LrIs.mk I' _ _ _ _ ⟨p,v,pv,(hO _ (Or.inr (Or.inr (Or.inr (Or.inl rfl))))).trans h1,h2,ownF_at2 h3 (fun g eg=>hO _ (Or.inr (Or.inr (Or.inr (Or.inr (Or.inl eg)))))),ownI_at h4 (fun g eg=>hO _ (Or.inr (Or.inr (Or.inr (Or.inr (Or.inr (Or.inl eg))))))),fun g eg=>hW _ (Or.inr (Or.inr (Or.inr (Or.inr (Or.inl eg))))),fun g eg=>hW _ (Or.inr (Or.inr (Or.inr (Or.inr (Or.inr (Or.inl eg))))))⟩ (@Ow.mk I' _ _ gg (hW _ (Or.inr (Or.inr (Or.inr (Or.inl rfl)))))) (Nat.le_trans gl hs) hL
  have Pn:@PoIs I' B w' X G:=@PoIs.mk I' _ _ _ _ ((hO _ (Or.inr (Or.inr (Or.inr (Or.inr (Or.inr (Or.inr (Or.inl rfl)))))))).trans pb1) ⟨cur,fz,(hO _ (Or.inr (Or.inr (Or.inr (Or.inr (Or.inr (Or.inr (Or.inr (Or.inl rfl))))))))).trans e,hc⟩ (fun j hj=>(hO _ (Or.inr (Or.inr (Or.inr (Or.inr (Or.inr (Or.inr (Or.inr (Or.inr ⟨j,hj,rfl⟩))))))))).trans (pf j hj)) pi pn1 pn2 (@Ow.mk I' _ _ pg1 (hW _ (Or.inr (Or.inr (Or.inr (Or.inr (Or.inr (Or.inr (Or.inl rfl))))))))) (fun j hj=>@Ow.mk I' _ _ (pgf j hj) (hW _ (Or.inr (Or.inr (Or.inr (Or.inr (Or.inr (Or.inr (Or.inr (Or.inr ⟨j,hj,rfl⟩)))))))))) (hW _ (Or.inr (Or.inr (Or.inr (Or.inr (Or.inr (Or.inr (Or.inr (Or.inl rfl))))))))) ph0 ph1
  have Lxn:@Lx I' B w' X.l k S (lgR X.db C.lb C.sc C.run C.fs (off C.fs sure) false):=@Lx.mk I' _ _ _ _ _ _ Dn Ln
  have Lvn:@Lv I' B w' X.l k S X.db C.lb C.sc C.run C.fs sure:=@Lv.mk I' _ _ _ _ _ _ _ _ _ _ _ Lxn vu vf vs vn vr vq
  have Stn:StIs w' X.sb X.db C.bs C.ps C.gn:=⟨(hO' _ (Or.inr rfl)).trans sb1⟩
  have Pqn:@Pq I' B w' X k S C sure G:=@Pq.mk I' _ _ _ _ _ _ _ _ Lvn Stn Pn qn1 qo
  exact @Pv.mk I' _ _ _ _ _ _ _ _ _ _ _ Pqn vp (@Iv.mk I' _ _ _ _ _ _ v1 v2 v3 v4 v5 v6 v7)
theorem Sw.op {B fn:Nat} {w:World} {X:Ad} {P:Px} {W:Nat->Prop} {args:Array Value} {A:Obj->Prop} {R:Ending->Px->Prop} {L:Ending->World->Prop} (h:Sw B w X P W)
  (hop:∀ (I:Inhabited PrSet),@Pv I B w X P.k P.S P.C P.sure P.G P.st P.pn P.pg->Calls Tryz.prog fn args w fun e w'=>(∃ P':Px,R e P'/\@Pv I B w' X P'.k P'.S P'.C P'.sure P'.G P'.st P'.pn P'.pg/\@Kp I A B w w')∨(L e w')) :
  Calls Tryz.prog fn args w fun e w'=>(∃ P':Px,R e P'/\∃ W',Sw B w' X P' W'/\Fr W W' w w')∨L e w':=by
 obtain⟨p,hp⟩:∃ p:Nat->Option Obj,(∀ j,(¬ W j/\j<w.heap.size)->p j=w.heap[j]?)/\(∀ j,¬ (¬ W j/\j<w.heap.size)->p j=none):=by
  refine⟨fun j=>@ite _ (¬ W j/\j<w.heap.size) (Classical.propDecidable _) (w.heap[j]?) none,fun j hj=>?_,fun j hj=>?_⟩
  ·exact if_pos hj
  ·exact if_neg hj
 have hnp:∀ j,@np ⟨⟨p⟩⟩ j->W j∨w.heap.size<=j:=fun j hj=>by
  rcases Classical.em (W j) with hw |hw
  ·exact Or.inl hw
  ·rcases Nat.lt_or_ge j w.heap.size with hl |hl
   ·exfalso
    refine hj (show p j≠none from ?_)
    rw[hp.1 j ⟨hw,hl⟩]
    simp[hl]
   ·exact Or.inr hl
 have hP:=h.go ⟨⟨p⟩⟩ w (fun _ _=>rfl) (Nat.le_refl _) (fun j hj e=>e (hp.2 j (fun x=>x.1 hj))) (fun j o e=>by
  rcases Classical.em (¬ W j/\j<w.heap.size) with ho |ho
  ·exact(hp.1 j ho).symm.trans e
  ·have:=(hp.2 j ho).symm.trans e;cases this)
 letI:Inhabited PrSet:=⟨⟨p⟩⟩
 refine(hop ⟨⟨p⟩⟩ hP).mono ?_
 rintro e w' (⟨P',hR,hV,hK⟩ |hL)
 ·left
  obtain⟨W2,n2,U2⟩:=pv_sup hV
  refine⟨P',hR,_,U2,hK.bel.os,hK.bel.tape,hK.bel.output,hK.bel.size,fun j hj hn=>?_,fun j hj=>?_⟩
  ·have e1:w.heap[j]?=some w.heap[j]:=by simp[hj]
   rw[e1]
   exact hK.prot j _ e1 (fun e2=>by
    have e3:p j=none:=e2
    rw[hp.1 j ⟨hn,hj⟩,e1] at e3;cases e3)
  ·rcases hj with hj |rfl
   ·exact hnp j (n2 j hj)
   ·exact Or.inl h.sb
 ·exact Or.inr hL
end Go.Proofs.YtpcnjncgilmehabGreat.Tr
