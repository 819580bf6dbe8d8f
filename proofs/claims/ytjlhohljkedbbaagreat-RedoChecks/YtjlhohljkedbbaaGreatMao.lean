import Derived.Test.YtjlhohljkedbbaaGreatMan
import Derived.Test.YtjlhohljkedbbaaGreatMag
import Derived.Test.YtjlhohljkedbbaaGreatProg
import Derived.WalkKit
import Derived.Below
import Derived.Lib.SmallJoins
import Derived.Lib.SliceRun
import Derived.Deep.MidRow
import Derived.Laws.AppendOwn
import Derived.Laws.Append
import Derived.Deep.WholeRow
import Derived.Laws.ResultCell
import Derived.Laws.Rows
set_option linter.unusedVariables false
set_option linter.unusedSimpArgs false
set_option maxRecDepth 100000
namespace Go.Proofs.YtjlhohljkedbbaaGreat
open Go.RowKit Go.Maps Go.ChangeMaps
section
variable {B:Nat}{w w':World}{fs:List ByteArray}
theorem search_any {v:Value} {ps:List Int} (h:OwnI B w v ps) (hs:ps.Pairwise (·<=·)) (hl:ps.length<=1000000) (x:Int):Calls Tryz.prog 93 #[v,.int .i64 x] w fun e w'=>e=.returned (.tuple #[.int .i64 (ps.countP (·<x):Nat),.bool (ps.contains x)])/\∃ q,w'=w.drewN q:=by
 rcases h.row.2 with⟨rfl,hn⟩ |⟨g,cap,cur,rfl,hbg,hgg,hnc,hcm,hcs,htake⟩
 ·have:ps=[]:=List.eq_nil_of_length_eq_zero hn
  subst this
  refine(Tryz.slices_BinarySearch_int_empty none 0 x w).mono ?_
  rintro e w' ⟨he,hw⟩
  subst hw
  exact⟨he,0,rfl⟩
 ·have:=Tryz.slices_BinarySearch_int g 0 ps.length cap ps x w (Nat.le_refl _) (by omega) (fun j hj=>by
   rw[Nat.zero_add,Lib.cell_of_heap hgg]
   have:(iv ps)[j]?=some (.int .i64 ps[j]):=by simp[iv,hj]
   rw[← htake,List.getElem?_take,if_pos (by omega)] at this
   rw[List.getD_eq_getElem?_getD,List.getElem?_eq_getElem hj]
   simpa using this) (by rw[List.take_length];exact hs)
  rw[List.take_length] at this
  exact this
def bnd (fs:List ByteArray) (x:Int):Bool:=(plc 1 fs).contains x||decide (x=((cat fs).size:Int)+1)
end
section
variable {fs:List ByteArray}
theorem bnd_iff {fs:List ByteArray} {x:Int}:bnd fs x=true↔∃ i,i<=fs.length/\x=((1+off fs i:Nat):Int):=by
 unfold bnd
 rw[Bool.or_eq_true,plc_has,decide_eq_true_eq]
 constructor
 ·rintro(⟨i,hi,e⟩ |e)
  ·exact⟨i,by omega,e⟩
  ·exact⟨fs.length,Nat.le_refl _,by rw[off_all];omega⟩
 ·rintro⟨i,hi,e⟩
  rcases Nat.lt_or_ge i fs.length with h |h
  ·exact Or.inl ⟨i,h,e⟩
  ·have:i=fs.length:=by omega
   subst this
   rw[off_all] at e
   exact Or.inr (by omega)
end
section
variable [Inhabited PrSet]{B l k:Nat}{w:World}{S:Dk}
theorem Lx.row {R:Lr} (h:Lx B w l k S R):∃ a c,w.cell? ⟨l,7,none⟩=some (.slice a R.ps.length c)/\OwnI B w (.slice a R.ps.length c) R.ps:=h.g.c7
end
section
variable {sc:Nat}{fs:List ByteArray}
theorem fit_len {fs:List ByteArray} (hf:Fit sc fs):(plc 1 fs).length<=70000:=by
 have:=cat_len hf.frm
 have:=hf.sz
 have:=hf.s1
 rw[plc_length];omega
end
section
variable [Inhabited PrSet]{B l k db bs sc run dur:Nat}{w w' w0:World}{S:Dk}{fs:List ByteArray}{dead:Bool}
set_option maxHeartbeats 1000000 in
theorem Bound_any (h:Lx B w l k S (lgR db bs sc run fs dur dead)) (hf:Fit sc fs) (x:Int):Calls Tryz.prog 68 #[.pointer (some ⟨l,0,none⟩),.int .i64 x] w fun e w'=>e=.returned (.bool (bnd fs x))/\Below w.heap.size w w':=by
 have h1:=hf.sz
 have h2:=hf.s1
 have hl:=fit_len hf
 have CI:Hid (Calls Tryz.prog 41 #[.pointer (some ⟨l,0,none⟩)] w fun e w'=>e=.returned (.bool true)/\w'=w):=isOpen_any h.g
 have CE:Hid (∀ wx,Lx B wx l k S (lgR db bs sc run fs dur dead)->Calls Tryz.prog 32 #[.pointer (some ⟨l,0,none⟩)] wx fun e w'=>e=.returned (.int .i64 (((cat fs).size:Int)+1))/\w'=wx):=fun wx hx=>End_any hx.g (by show(cat fs).size<=1000000;omega)
 obtain⟨a,c,c7,ho⟩:=h.row
 have CB:Hid (Calls Tryz.prog 93 #[.slice a (plc 1 fs).length c,.int .i64 x] w fun e w'=>e=.returned (.tuple #[.int .i64 ((plc 1 fs).countP (·<x):Nat),.bool ((plc 1 fs).contains x)])/\∃ q,w'=w.drewN q):=search_any ho (plc_sorted 1 fs) (by show(plc 1 fs).length<=1000000;omega) x
 have c7':w.cell? ⟨l,7,none⟩=some (.slice a (plc 1 fs).length c):=c7
 have H:Hid (Lx B w l k S (lgR db bs sc run fs dur dead)):=h
 have HB:Hid (bnd fs x=((plc 1 fs).contains x||decide (x=((cat fs).size:Int)+1))):=rfl
 clear h hf h1 h2 c7 ho
 generalize (plc 1 fs).contains x=b at *
 generalize ((plc 1 fs).countP (·<x):Nat)=ct at *
 generalize (plc 1 fs).length=n at *
 generalize ((cat fs).size:Int)+1=E at *
 generalize bnd fs x=r at *
 have hbel:∀ q,Below w.heap.size w (w.drewN q):=fun q=>Sm.below_dr (Below.refl _ _) q
 cases b with
 | true =>
  go_enter Tryz.func68,Tryz.ntmps68
  go_wp2_with (first
   | (go_at_call 41;refine CI.out.mono ?_;rintro e w0 ⟨rfl,rfl⟩)
   | (go_at_call 93;refine CB.out.mono ?_;rintro e w1 ⟨rfl,q,rfl⟩))
  go_ret
  rw[HB.out]
  exact⟨rfl,hbel q⟩
 | false =>
  go_enter Tryz.func68,Tryz.ntmps68
  go_wp2_with (first
   | (go_at_call 41;refine CI.out.mono ?_;rintro e w0 ⟨rfl,rfl⟩)
   | (go_at_call 93;refine CB.out.mono ?_;rintro e w1 ⟨rfl,q,rfl⟩)
   | (go_at_call 32;refine(CE.out _ (H.out.drewN q)).mono ?_;rintro e w2 ⟨rfl,rfl⟩))
  go_ret
  rw[HB.out,Bool.false_or]
  exact⟨rfl,hbel q⟩
end
def isR:Obj->Prop
 | .cells _ t _=>t=54
 | _=>False
section
variable [Inhabited PrSet]{B l k db bs sc run dur:Nat}{w w' w1 w2 w5 w6:World}{S:Dk}{fs:List ByteArray}{dead:Bool}{R:Lr}{A:Obj->Prop}
theorem Lx.keptR (h:Lx B w l k S R) {B':Nat} (hb:Kp isR B' w w'):Lx B w' l k S R:=by
 obtain⟨lb,mb,m,d1,d2,d3,d4⟩:=h.d.dsk
 obtain⟨p,v,pv,h1,h2,h3,h4,n3,n4⟩:=h.g.ex
 have e1:w'.heap[lb]?=w.heap[lb]?:=by
  obtain⟨cur,fz,e2⟩:=d1.row.ty
  rw[e2];exact hb.block _ _ e2 (by simp[isR])
 have e3:w'.heap[mb]?=w.heap[mb]?:=by
  obtain⟨es,c,e2⟩:=d1.map.is
  rw[e2];exact hb.block _ _ e2 (by simp[isR])
 refine⟨⟨⟨lb,mb,m,⟨hb.block _ _ d1.blk (by simp[isR]),d1.row.of_block e1 hb.size,d1.map.of_block e3,d1.ne⟩,d2,d3,d4⟩,h.d.q,h.d.hd,Nat.le_trans h.d.lt hb.size,h.d.lp.kp hb⟩,?_⟩
 exact⟨⟨p,v,pv,hb.block l _ h1 (by simp[isR]),h2,ownF_of h3 (fun k cur fz e=>hb.block k _ e (by simp[isR])),h4.of_block (fun k cur fz e=>hb.block k _ e (by simp[isR])),n3,n4⟩,h.g.ge,Nat.le_trans h.g.le hb.size,h.g.lp.kp hb⟩
theorem put_kp {b:Nat} {s0 s:Sc} {I0 T0 I T:Value} (hr:RcAt w b s0 I0 T0) (P:PutR w w' b s I T) (hB:Ow B b) (hw:B<=w.heap.size):Kp isR B w w' :=
 Kp.one hr.blk rfl (P.below hB.ge hw) hB.np (fun j o e hj=>(P.off.block j (lt_of_some e) hj).trans e)
theorem Kp.putR {b:Nat} {s:Sc} {I T:Value} (h:Kp A B w w5) (P:PutR w5 w6 b s I T) (hb:w.heap.size<=b) (hB:B<=w.heap.size):Kp A B w w6 :=
 ⟨h.bel.trans (P.below (Nat.le_trans hB hb) (Nat.le_trans hB h.size)),fun j o e hn=>(P.off.block j (lt_of_some (h.block j o e hn)) (fun e2=>by have:=lt_of_some e;omega)).trans (h.block j o e hn),fun j o e hn=>(P.off.block j (lt_of_some (h.prot j o e hn)) (fun e2=>by have:=lt_of_some e;omega)).trans (h.prot j o e hn)⟩
set_option maxHeartbeats 2000000 in
theorem read_ok (h:Lx B w l k S (lgR db bs sc run fs dur dead)) (hf:Fit sc fs) (x:Int) (hx1:1<=x) (hx2:x<((cat fs).size:Int)+1) {m:Rm} {n:Int} (ho:openM (cat fs) (x-1)=(m,n,0)) (hn0:0<=n) (hn1:n<=1000000) :
  Calls Tryz.prog 34 #[.pointer (some ⟨l,0,none⟩),.int .i64 x] w fun e w'=>(∃ v,e=.returned (.tuple #[v,.int .i64 (x+n),.int .i64 0])/\RecF w' v m w.heap.size)/\Lx B w' l k S (lgR db bs sc run fs dur dead)/\Kp isL B w w'/\Ce w w':=by
 have h1:=hf.sz
 have HLp:Hid (Ltp w):=h.g.lp
 have h2:=hf.s1
 have CI:Hid (∀ wx,Below w.heap.size w wx->Calls Tryz.prog 41 #[.pointer (some ⟨l,0,none⟩)] wx fun e w'=>e=.returned (.bool true)/\w'=wx):=fun wx hx=>isOpen_any (h.below hx).g
 have CE:Hid (∀ wx,Below w.heap.size w wx->Calls Tryz.prog 32 #[.pointer (some ⟨l,0,none⟩)] wx fun e w'=>e=.returned (.int .i64 (((cat fs).size:Int)+1))/\w'=wx):=fun wx hx=>End_any (h.below hx).g (by show(cat fs).size<=1000000;omega)
 have CS:Hid (∀ wx,Below w.heap.size w wx->Calls Tryz.prog 62 #[.pointer (some ⟨l,5,none⟩)] wx fun v w'=>v=.returned (.string (cat fs))/\Lx B w' l k S (lgR db bs sc run fs dur dead)/\Kp isL B wx w'/\Ce wx w'):=fun wx hx=>by
  refine(String_log2 (h.below hx).g).mono ?_
  rintro v w' ⟨hv,g1,k1,q1⟩
  exact⟨hv,(h.below hx).kept rfl g1 k1,k1,q1⟩
 have CO:Hid (∀ wx,Calls Tryz.prog 63 #[.string (cat fs),.int .i64 (x-1)] wx fun e w'=>(∃ v,e=.returned (.tuple #[v,.int .i64 n,.int .i64 0])/\RecF w' v m wx.heap.size)/\Below wx.heap.size wx w'):=fun wx=>by
  have:=Open_any (w:=wx) (cat fs) (x-1) (by omega)
  rw[ho] at this
  exact this
 have hle:=h.le
 have t1:¬ x<1:=by omega
 have t2:¬ ((cat fs).size:Int)+1<=x:=by omega
 have hxb:x<=1000000:=by omega
 clear h hf h1 h2 ho
 generalize ((cat fs).size:Int)+1=E at *
 generalize hT:cat fs=t at CS CO
 clear hT
 obtain⟨s9,l9,g9⟩:=m
 have hw1:IntKind.i64.wrap (x-1)=x-1:=by rw[IntKind.wrap_i64];omega
 have hw2:IntKind.i64.wrap (x+n)=x+n:=by rw[IntKind.wrap_i64];omega
 go_enter Tryz.func34,Tryz.ntmps34
 go_wp2_with (first
  | (have:=N1;refine wpList_new_rc _ rfl rfl ?_;intro w4 b7 N7)
  | (refine wpList_new_rc _ rfl rfl ?_;intro w1 b4 N1)
  | (go_at_call 41;refine(CI.out _ N1.below).mono ?_;rintro e w9 ⟨rfl,rfl⟩)
  | (go_at_call 32;refine(CE.out _ N1.below).mono ?_;rintro e w8 ⟨rfl,rfl⟩)
  | (go_at_call 62;refine(CS.out _ N1.below).mono ?_;rintro e w2 ⟨rfl,H2,k2,ce2⟩;have rc2:RcAt w2 b4 zS nilV nilV:=⟨k2.block _ _ N1.rc.blk (by simp[isL])⟩)
  | (go_at_call 63;refine(CO.out _).mono ?_;rintro e w3 ⟨⟨v,rfl,hv⟩,b3⟩;have rc3:=rc2.below b3;obtain⟨I,T,rfl,hI,hT⟩:=hv.ex;dsimp only at hI hT)
  | (refine wpList_at (Op.store 54 (.tmp 7) (.tmp 31)) rfl ?_;refine wpList_put_rc (s':=s9) (I':=I) (T':=T) _ rfl (.tmp 7) (.tmp 31) rfl rfl rfl N7.rc hI.slI.one hT.slT.one ?_;intro w5 P7;have b35:Below w3.heap.size w3 w5:=N7.below.trans (P7.below (by have:=N7.eq;omega) N7.below.size);have rc5:=rc3.below b35;have I5:=hI.below b35;have T5:=hT.below b35)
  | (refine wpList_load_rc _ rfl (.tmp 7) rfl rfl P7.rc ?_)
  | (refine wpList_at (Op.store 54 (.tmp 4) (.tmp 38)) rfl ?_;refine wpList_put_rc (s':=s9) (I':=I) (T':=T) _ rfl (.tmp 4) (.tmp 38) rfl rfl rfl rc5 hI.slI.one hT.slT.one ?_;intro w6 P6))
 refine bodyPost_ret (results_rc3 rfl _ _ rfl P6.rc) rfl ?_
 have e4:=N1.eq
 have z4:=N1.rc.lt
 have b25:Below w2.heap.size w2 w5:=thn b3 b35
 have K5:Kp isL B w w5:=((Kp.of_below N1.below hle).trans k2).below b25 hle
 have H5:=H2.below b25
 have hk2:=k2.size
 refine⟨⟨_,rfl,I,T,rfl,(I5.off P6.off (by omega)).mono (by omega),(T5.off P6.off (by omega)).mono (by omega)⟩,?_,K5.putR P6 (by omega) hle,?_⟩
 ·exact H5.keptR (put_kp (B:=B) rc5 P6 (HLp.out.ow hle (by omega)) H5.le)
 ·have c5:Ce w w5:=((Ce.of_below N1.below).trans ce2).trans (Ce.of_below b25)
  exact⟨Nat.le_trans c5.size P6.off.size,fun p hp=>(World.cell?_of_block (P6.off.block _ (Nat.lt_of_lt_of_le hp c5.size) (by omega))).trans (c5.cell p hp)⟩
end
abbrev E3:=Sc × Value × Value
def E3.A (e:E3):List Value:=(e.1.A e.2.1 e.2.2).toList
theorem E3.len (e:E3):e.A.length=13:=rfl
def flat:List E3->List Value
 | []=>[]
 | e :: l=>e.A++flat l
theorem flat_append (l m:List E3):flat (l++m)=flat l++flat m:=by
 induction l with
 | nil=>rfl
 | cons e l ih=>simp only[List.cons_append,flat,ih,List.append_assoc]
theorem flat_length (l:List E3):(flat l).length=l.length*13:=by
 induction l with
 | nil=>rfl
 | cons e l ih=>simp only[flat,List.length_append,E3.len,ih,List.length_cons];omega
theorem flat_get (l:List E3):∀ (i:Nat) (hi:i<l.length) (j:Nat),j<13->(flat l)[i*13+j]?=(l[i].A)[j]?:=by
 induction l with
 | nil=>intro i hi;exact absurd hi (Nat.not_lt_zero _)
 | cons e l ih =>
  intro i hi j hj
  cases i with
  | zero=>rw[flat,Nat.zero_mul,Nat.zero_add,List.getElem?_append_left (by rw[E3.len];exact hj)];rfl
  | succ i =>
   have:=ih i (by simpa using hi) j hj
   rw[flat,List.getElem?_append_right (by rw[E3.len];omega),E3.len,show(i+1)*13+j-13=i*13+j by omega,this]
   rfl
def Apart (v u:Value) (L:List P2):Prop:=L≠[]->∀ b off n c,u=.slice (some ⟨b,off,none⟩) n c->v.ownBlock≠some b
structure Rcs (B:Nat) (w:World) (v:Value) (ms:List Rm):Prop where
 ex:∃ es:List E3,es.length=ms.length/\w.ownsRow B 54 13 v ms.length (flat es)/\∀ i,(h1:i<es.length)->(h2:i<ms.length)->es[i].1=ms[i].s/\(Fr w es[i].2.1 (encI ms[i].im) B/\Fr w es[i].2.2 (encT ms[i].tb) B)/\Apart v es[i].2.1 (encI ms[i].im)/\Apart v es[i].2.2 (encT ms[i].tb)
section
variable {B:Nat}{w:World}
theorem Rcs.nil (B:Nat) (w:World):Rcs B w (.slice none 0 0) []:=⟨[],rfl,⟨rfl,Or.inl ⟨rfl,rfl⟩⟩,fun i h=>absurd h (Nat.not_lt_zero _)⟩
end
section
variable {w w':World}
theorem Cs.ce {a:Option Addr} {L:List P2} (h:Cs w a L) (hc:Ce w w'):Cs w' a L:=⟨fun i hi=>by
 obtain⟨b,off,e,hb,h1,h2⟩:=h.at_ i hi
 exact⟨b,off,e,Nat.lt_of_lt_of_le hb hc.size,(hc.cell _ hb).trans h1,(hc.cell _ hb).trans h2⟩⟩
end
section
variable {B:Nat}{w w':World}{v:Value}
theorem Fr.ce {L:List P2} (h:Fr w v L B) (hc:Ce w w'):Fr w' v L B:=by
 obtain⟨a,c,h0,h1,h2⟩:=h.ex
 exact⟨a,c,h0,h1.ce hc,h2⟩
end
section
variable {B:Nat}{w w':World}{v:Value}{ms:List Rm}
theorem Rcs.kept (h:Rcs B w v ms) (hc:Ce w w') (hk:∀ (j:Nat) (cur:Array Value) (fz:Nat × Nat),w.heap[j]?=some (Obj.cells cur 54 fz)->w'.heap[j]?=some (Obj.cells cur 54 fz)):Rcs B w' v ms:=by
 obtain⟨es,h1,⟨h2,h3⟩,h4⟩:=h.ex
 refine⟨es,h1,⟨h2,?_⟩,fun i a b=>?_⟩
 ·rcases h3 with h3 |⟨g,cap,cur,e,hB,hg,h5⟩
  ·exact Or.inl h3
  ·exact Or.inr ⟨g,cap,cur,e,hB,hk _ _ _ hg,h5⟩
 ·obtain⟨q1,⟨q2,q3⟩,q4⟩:=h4 i a b
  exact⟨q1,⟨q2.ce hc,q3.ce hc⟩,q4⟩
end
section
variable {B:Nat}{w w':World}{v:Value}{ms:List Rm}
theorem Rcs.below (h:Rcs B w v ms) (hb:Below w.heap.size w w'):Rcs B w' v ms:=h.kept (Ce.of_below hb) (fun j cur fz e=>(hb.block j (lt_of_some e)).trans e)
end
section
variable {B:Nat}{w:World}{v:Value}{ms:List Rm}
theorem Rcs.slice (h:Rcs B w v ms):∃ a c,v=.slice a ms.length c:=by
 obtain⟨es,h1,⟨h2,h3⟩,h4⟩:=h.ex
 rcases h3 with⟨rfl,h3⟩ |⟨g,cap,cur,e,hB,hg,h5⟩
 ·exact⟨none,0,by rw[h3]⟩
 ·exact⟨_,_,e⟩
end
section
variable {B:Nat}{w:World}{A:Obj->Prop}{ms:List Rm}
theorem Rcs.at_ {a:Option Addr} {n c:Nat} (h:Rcs B w (.slice a n c) ms) {i:Nat} (hi:i<ms.length):∃ g I T,a=some ⟨g,0,none⟩/\w.rangeAt g (i*13) ((ms[i].s.A I T).toList)/\RecF w (.agg (ms[i].s.A I T)) ms[i] B:=by
 obtain⟨es,h1,⟨h2,h3⟩,h4⟩:=h.ex
 rcases h3 with⟨_,h3⟩ |⟨g,cap,cur,e,hB,hg,h5,h6,h7,h8⟩
 ·omega
 ·cases e
  have hi1:i<es.length:=by omega
  obtain⟨q1,⟨q2,q3⟩,q4⟩:=h4 i hi1 hi
  refine⟨g,es[i].2.1,es[i].2.2,rfl,?_,⟨_,_,rfl,q2,q3⟩⟩
  intro j u hu
  have hj:j<13:=by
   have:=(List.getElem?_eq_some_iff.1 hu).1
   exact this
  rw[Lib.cell_of_heap hg]
  have:=flat_get es i hi1 j hj
  rw[← h8,List.getElem?_take,if_pos (by have:=flat_length es;have:=h2;omega)] at this
  rw[← Array.getElem?_toList,this,← hu,← q1]
  rfl
end
section
variable {A:Obj->Prop}
theorem infoRec:∃ i,Tryz.prog.info? 54=some i/\i.zero=some (.agg (zS.A nilV nilV))/\i.size=13/\i.bytes=160 :=
 info_parts (show(Tryz.prog.info? 54).map (fun i=>(i.zero,i.size,i.bytes))=some (some (.agg (zS.A nilV nilV)),13,160) by kernel_rfl)
end
section
variable {A:Obj->Prop}
theorem rec_one {m:Rm} {I T:Value} (hI:I.oneCell'=true) (hT:T.oneCell'=true):∀ u∈(m.s.A I T).toList,u.oneCell'=true:=by
 intro u hu
 simp[Sc.A] at hu
 rcases hu with rfl |rfl |rfl |rfl |rfl |rfl |rfl |rfl |rfl |rfl |rfl |rfl |rfl
 all_goals first |rfl |exact hI |exact hT
end
section
variable {B run:Nat}{w w':World}{A:Obj->Prop}{v:Value}{ms:List Rm}
theorem append_rcs (h:Rcs B w v ms) {g:Nat} {m:Rm} {I T:Value} (hg:RcAt w g m.s I T) (hI:I.oneCell'=true) (hT:T.oneCell'=true) (hB:B<=w.heap.size) (hl:ms.length<=100000) (ty:TypeId) (es:List E3) (hrow:w.ownsRow B 54 13 v ms.length (flat es)) :
  ∃ v' w',(Builtin.append_ #[43,43] ty #[v,.slice (some ⟨g,0,none⟩) 1 1]).run Tryz.prog w=.ok v' w'/\w'.ownsRow B 54 13 v' (ms.length+1) (flat es++E3.A (m.s,I,T))/\w.grownBy w' v.ownBlock/\(v'.ownBlock=v.ownBlock∨v'.ownBlock=some w.heap.size):=by
 obtain⟨i,hi,hz0,hz1,hz2⟩:=infoRec
 have hnews:∀ j u,(E3.A (m.s,I,T))[j]?=some u->w.cell? ((⟨g,0,none⟩:Addr).add j)=some u:=by
  intro j u hu
  have hadd:(⟨g,0,none⟩:Addr).add j=⟨g,j,none⟩:=by unfold Addr.add;split <;> simp_all
  rw[hadd,Joins.cell_of_block hg.blk,← Array.getElem?_toList]
  exact hu
 have h1:∀ u∈E3.A (m.s,I,T),u.oneCell'=true:=rec_one (m:=m) hI hT
 obtain⟨v',w',hr,ho,hgr,_⟩:=run_append_own (P:=Tryz.prog) w B 43 ty 54 i (.agg (zS.A nilV nilV)) 13 160 Tryz.underlying43 hi hz0 hz1 hz2 rfl (by omega) v ms.length (flat es) hrow ⟨g,0,none⟩ 1 1 (E3.A (m.s,I,T)) rfl hnews h1 (by unfold maxLen;omega) (by omega) hB
 refine⟨v',w',hr,ho,hgr,?_⟩
 have hl1:(E3.A (m.s,I,T)).length=1*i.size:=by rw[hz1];rfl
 rcases hrow.2 with⟨rfl,hn⟩ |⟨b,cap,cur,rfl,hbg,hgg,hnc,hcm,hcs,htake⟩
 ·have hr2:=run_append_nil (P:=Tryz.prog) w 43 ty 54 i (.agg (zS.A nilV nilV)) Tryz.underlying43 hi hz0 ⟨g,0,none⟩ 1 1 (E3.A (m.s,I,T)) hl1 hnews (by omega) (by omega) (by rw[hz2];omega)
  rw[hr2] at hr
  injection hr with e1 e2
  subst e1
  exact Or.inr rfl
 ·by_cases hroom:ms.length+1<=cap
  ·have hr2:=run_append_room (P:=Tryz.prog) w 43 ty 54 i Tryz.underlying43 hi b ms.length cap cur hgg ⟨g,0,none⟩ 1 1 (E3.A (m.s,I,T)) hl1 hnews h1 hroom (by rw[hz1,hcs,E3.len];omega)
   rw[hr2] at hr
   injection hr with e1 e2
   subst e1
   exact Or.inl rfl
  ·have holds:∀ j u,(flat es)[j]?=some u->w.cell? ((⟨b,0,none⟩:Addr).add j)=some u:=by
    intro j u hu
    have hadd:(⟨b,0,none⟩:Addr).add j=⟨b,j,none⟩:=by unfold Addr.add;split <;> simp_all
    rw[hadd,cell_of_row w b j cur 54 (0,0) hgg]
    rw[← htake,List.getElem?_take] at hu
    split at hu
    ·simpa using hu
    ·cases hu
   have hr2:=run_append_grow (P:=Tryz.prog) w 43 ty 54 i (.agg (zS.A nilV nilV)) Tryz.underlying43 hi hz0 ⟨b,0,none⟩ ms.length cap (flat es) (by rw[hz1,hrow.1]) holds ⟨g,0,none⟩ 1 1 (E3.A (m.s,I,T)) hl1 hnews (by omega) (by omega) (by rw[hz2];exact growslice_fits (by omega) (by omega))
   rw[hr2] at hr
   injection hr with e1 e2
   subst e1
   exact Or.inr rfl
end
section
variable {B:Nat}{w w':World}{v:Value}
theorem Fr.grown {u:Value} {L:List P2} (h:Fr w u L B) (ha:Apart v u L) (hg:w.grownBy w' v.ownBlock):Fr w' u L B:=by
 obtain⟨a,c,h0,h1,h2⟩:=h.ex
 refine⟨a,c,h0,⟨fun i hi=>?_⟩,h2⟩
 obtain⟨b,off,e,hb,q1,q2⟩:=h1.at_ i hi
 have hne:L≠[]:=fun e=>by rw[e] at hi;exact absurd hi (Nat.not_lt_zero _)
 have hbk:w'.heap[b]?=w.heap[b]?:=hg.block b hb (fun e2=>ha hne b off _ _ (by rw[h0,e]) e2.symm)
 exact⟨b,off,e,Nat.lt_of_lt_of_le hb hg.size,(World.cell?_of_block (by exact hbk)).trans q1,(World.cell?_of_block (by exact hbk)).trans q2⟩
end
section
variable {B:Nat}{w:World}
theorem Fr.lt {u:Value} {L:List P2} (h:Fr w u L B) (hL:L≠[]) {b off n c:Nat} (e:u=.slice (some ⟨b,off,none⟩) n c):b<w.heap.size:=by
 obtain⟨a,c',h0,h1,h2⟩:=h.ex
 have hi:0<L.length:=List.length_pos_iff.2 hL
 obtain⟨b',off',e',hb,_⟩:=h1.at_ 0 hi
 rw[h0] at e
 injection e with e1 _ _
 rw[e'] at e1
 injection e1 with e1
 injection e1 with e1
 omega
end
section
variable [Inhabited PrSet]{B:Nat}{w w':World}{A:Obj->Prop}{v:Value}{ms:List Rm}
theorem wpList_append_rcs {ops:Array Oper} {rest:List Oper} {o:Oper} {act:Act} {Q:Exit->Act->World->Prop} (hgd:o.guard=none) (s x:Operand)
  (ho:o.op=.call {callee:=.builtin .append,args:=#[s,x],argTypes:=#[43,43]}) (hs:act.eval s=v) (h:Rcs B w v ms)
  {g:Nat} {m:Rm} {I T:Value} (hx:act.eval x=.slice (some ⟨g,0,none⟩) 1 1) (hg:RcAt w g m.s I T) (hI:Fr w I (encI m.im) B) (hT:Fr w T (encT m.tb) B) (hA1:Apart v I (encI m.im)) (hA2:Apart v T (encT m.tb)) (hB:B<=w.heap.size) (hl:ms.length<=100000) (hnp:∀ j,B<=j->np j)
  (K:∀ v' w',Rcs B w' v' (ms++[m])->Kp isR B w w'->wpList Tryz.prog ops Q rest (act.put o.dst v') w'):wpList Tryz.prog ops Q (o ::rest) act w:=by
 refine wpList_plain hgd fun K' hK=>?_
 obtain⟨es,h1,hrow,h4⟩:=h.ex
 obtain⟨v',w',hr,h2,hgr,hown⟩:=append_rcs h hg hI.slI.one hT.slT.one hB hl o.type es hrow
 have hC:∀ j,v.ownBlock=some j->B<=j/\∃ cur,w.heap[j]?=some (.cells cur 54 (0,0)):=by
  intro j e
  rcases hrow.2 with⟨rfl,_⟩ |⟨b,cap,cur,rfl,hbg,hgg,_⟩
  ·simp[Value.ownBlock] at e
  ·simp[Value.ownBlock] at e
   subst e
   exact⟨hbg,cur,hgg⟩
 have hk:Kp isR B w w':=by
  refine⟨(Below.refl B w).grown hgr hB (fun j e=>(hC j e).1),fun j ob e hnr=>(hgr.block j (lt_of_some e) (fun e2=>?_)).trans e,fun j ob e hnr=>(hgr.block j (lt_of_some e) (fun e2=>hnp j (hC j e2.symm).1 hnr)).trans e⟩
  obtain⟨_,cur,e3⟩:=hC j e2.symm
  rw[e] at e3;cases e3;exact hnr rfl
 have hap:∀ {u:Value} {L:List P2},Fr w u L B->Apart v u L->Apart v' u L:=fun hF hA hne b off n c e=>by
  rcases hown with e2 |e2
  ·rw[e2];exact hA hne b off n c e
  ·rw[e2]
   intro e3
   injection e3 with e3
   have:=hF.lt hne e
   omega
 have hR:Rcs B w' v' (ms++[m]):=by
  refine⟨es++[(m.s,I,T)],by simp[h1],?_,fun i a b=>?_⟩
  ·rw[List.length_append,List.length_singleton,flat_append,show flat [(m.s,I,T)]=E3.A (m.s,I,T) from by simp[flat]]
   exact h2
  ·rcases Nat.lt_or_ge i ms.length with hi |hi
   ·rw[List.getElem_append_left (by omega),List.getElem_append_left hi]
    obtain⟨q1,⟨q2,q3⟩,q4,q5⟩:=h4 i (by omega) hi
    exact⟨q1,⟨q2.grown q4 hgr,q3.grown q5 hgr⟩,hap q2 q4,hap q3 q5⟩
   ·have hi2:i=ms.length:=by rw[List.length_append,List.length_singleton] at b;omega
    subst hi2
    rw[List.getElem_append_right (by omega),List.getElem_append_right (Nat.le_refl _)]
    simp only[h1,Nat.sub_self,List.getElem_singleton]
    exact⟨trivial,⟨hI.grown hA1 hgr,hT.grown hA2 hgr⟩,hap hI hA1,hap hT hA2⟩
 unfold Oper.wp execOp
 simp only[ho,resolve,invoke,builtin,Sem.run_bind,Sem.run_pure,Result.andThen_ok,List.map_toArray,List.map_cons,List.map_nil,hs,hx,hr]
 exact hK _ _ (K v' w' hR hk)
end
section
variable {run:Nat}{w:World}{A:Obj->Prop}
theorem run_build_rc (s:Sc) (I T:Value) (w:World):(Instr.buildSlice 43 1 #[(0,.agg (s.A I T))]).run Tryz.prog w=.ok (.slice (some ⟨w.heap.size,0,none⟩) 1 1) (w.alloc (.cells (s.A I T) 54)):=by kernel_rfl
end
section
variable {w w':World}{A:Obj->Prop}
theorem wpList_build_rc {ops:Array Oper} {rest:List Oper} {o:Oper} {act:Act} {Q:Exit->Act->World->Prop} {s:Sc} {I T:Value} (w:World) (hg:o.guard=none) (x:Operand) (hop:o.op=Op.buildSlice 43 1 #[(0,x)]) (hx:act.eval x=.agg (s.A I T))
  (h:∀ w' b,NewR w w' b s I T->wpList Tryz.prog ops Q rest (act.put o.dst (.slice (some ⟨b,0,none⟩) 1 1)) w'):wpList Tryz.prog ops Q (o ::rest) act w:=by
 refine wpList_plain hg fun K' hK'=>?_
 have hr:=run_build_rc s I T w
 unfold Oper.wp execOp
 simp only[hop,List.map_toArray,List.map_cons,List.map_nil,hx,Sem.run_bind,Sem.run_pure,Result.andThen_ok,hr]
 exact hK' _ _ (h _ _ ⟨⟨(MapKept.heap_alloc w _).1⟩,(Below.refl _ _).alloc (Nat.le_refl _) _,rfl⟩)
end
section
variable {C:Nat}{w:World}{v:Value}
theorem Fr.apart {u:Value} {L:List P2} (h:Fr w u L C) (hs:∀ j,v.ownBlock=some j->j<C):Apart v u L:=fun _ b off n c e e2=>by
 obtain⟨a,c',h0,h1,h2,h3,h4,h5⟩:=h.ex
 rw[h0] at e
 injection e with e1 _ _
 have:=h5 b off e1
 have:=hs b e2
 omega
end
section
variable {fs:List ByteArray}
theorem open_at {fs:List ByteArray} (hF:∀ f∈fs,Frm f) {i:Nat} (hi:i<fs.length):openM (cat fs) (off fs i:Int)=(recF fs[i],(fs[i].size:Int),0):=by
 have e:cat fs=cat (fs.take i)++fs[i]++cat (fs.drop (i+1)):=by
  have:fs=fs.take i++([fs[i]]++fs.drop (i+1)):=by
   rw[List.singleton_append,List.getElem_cons_drop,List.take_append_drop]
  conv=>lhs;rw[this]
  rw[cat_append,cat_append,cat,cat,app_nil,ByteArray.append_assoc]
 rw[e]
 exact(hF fs[i] (List.getElem_mem _)).open_ _ _
end
section
variable {B:Nat}{w w':World}{v:Value}
theorem clone_any {ps:List Int} (h:OwnI B w v ps) (hl:ps.length<=1000000):Calls Tryz.prog 42 #[v] w fun e w'=>(∃ v',e=.returned v'/\OwnI w.heap.size w' v' ps)/\Below w.heap.size w w':=by
 rcases h.row.2 with⟨rfl,hn⟩ |⟨g,cap,cur,rfl,hbg,hgg,hnc,hcm,hcs,htake⟩
 ·have:ps=[]:=List.eq_nil_of_length_eq_zero hn
  subst this
  refine(Tryz.slices_Clone_int_nil 0 0 w).mono ?_
  rintro e w' ⟨he,rfl⟩
  exact⟨⟨_,he,OwnI.nil _ _⟩,Below.refl _ _⟩
 ·refine(Tryz.slices_Clone_int g 0 ps.length cap ps w (Nat.le_refl _) (by omega) (fun j hj=>by
   rw[Nat.zero_add,Lib.cell_of_heap hgg]
   have:(iv ps)[j]?=some (.int .i64 ps[j]):=by simp[iv,hj]
   rw[← htake,List.getElem?_take,if_pos (by omega)] at this
   rw[List.getD_eq_getElem?_getD,List.getElem?_eq_getElem hj]
   simpa using this)).mono ?_
  rintro e w' ⟨v',he,hr,_,hb⟩
  rw[List.take_length] at hr
  exact⟨⟨v',he,⟨hr⟩⟩,hb⟩
end
structure Own7 (w:World) (l:Nat) (v2:Value):Prop where
 ex:∃ pv,w.cell? ⟨l,7,none⟩=some pv/\∀ g,v2.ownBlock=some g->pv.ownBlock≠some g
section
variable [Inhabited PrSet]{B l k db bs sc run dur:Nat}{w w' w0 w1 w2 w5:World}{S:Dk}{fs:List ByteArray}{dead:Bool}{v:Value}{ms:List Rm}
set_option maxHeartbeats 4000000 in
theorem Records_own (h:Lx B w l k S (lgR db bs sc run fs dur dead)) (hf:Fit sc fs):Calls Tryz.prog 17 #[.pointer (some ⟨l,0,none⟩)] w fun e w'=>(∃ v v2,e=.returned (.tuple #[v,v2])/\Rcs w.heap.size w' v (fs.map recF)/\OwnI w.heap.size w' v2 (plc 1 fs)/\Own7 w' l v2)/\Lx B w' l k S (lgR db bs sc run fs dur dead)/\Kp isL B w w':=by
 have h1:=hf.sz
 have h2:=hf.s1
 have hl:=fit_len hf
 have hlen:=plc_length 1 fs
 obtain⟨a,c,c7,ho⟩:=h.row
 have c7':w.cell? ⟨l,7,none⟩=some (.slice a (plc 1 fs).length c):=c7
 have ho':OwnI B w (.slice a (plc 1 fs).length c) (plc 1 fs):=ho
 have CI:Hid (Calls Tryz.prog 41 #[.pointer (some ⟨l,0,none⟩)] w fun e w'=>e=.returned (.bool true)/\w'=w):=isOpen_any h.g
 have CR:Hid (∀ wx i,(hi:i<fs.length)->Lx B wx l k S (lgR db bs sc run fs dur dead)->Calls Tryz.prog 34 #[.pointer (some ⟨l,0,none⟩),.int .i64 ((1+off fs i:Nat):Int)] wx fun e w'=>(∃ v n,e=.returned (.tuple #[v,.int .i64 n,.int .i64 0])/\RecF w' v (recF fs[i]) wx.heap.size)/\Lx B w' l k S (lgR db bs sc run fs dur dead)/\Kp isL B wx w'/\Ce wx w'):=fun wx i hi hx=>by
  have hoff:=off_lt hf.frm hi (Nat.le_refl _)
  rw[off_all] at hoff
  have hz:=(hf.frm fs[i] (List.getElem_mem _)).le
  have:=read_ok hx hf ((1+off fs i:Nat):Int) (by omega) (by omega) (m:=recF fs[i]) (n:=(fs[i].size:Int)) (by rw[show((1+off fs i:Nat):Int)-1=(off fs i:Int) by omega];exact open_at hf.frm hi) (by omega) (by omega)
  refine this.mono ?_
  rintro e w' ⟨⟨v,he,hr⟩,q⟩
  exact⟨⟨v,_,he,hr⟩,q⟩
 have HP:Hid (∀ wx i,(hi:i<fs.length)->Ce w wx->∃ g,a=some ⟨g,0,none⟩/\wx.cell? ⟨g,i,none⟩=some (.int .i64 ((1+off fs i:Nat):Int))):=fun wx i hi hc=>by
  obtain⟨g,e,hg⟩:=ho'.at_ (i:=i) (by rw[hlen];exact hi)
  have hgc:=hg w (Below.refl _ _)
  have hlt:g<w.heap.size:=by
   rcases Nat.lt_or_ge g w.heap.size with hh |hh
   ·exact hh
   ·simp[World.cell?,Array.getElem?_eq_none hh] at hgc
  refine⟨g,e,(hc.cell ⟨g,i,none⟩ hlt).trans ?_⟩
  rw[hgc]
  have:=plc_get 1 fs i hi
  rw[List.getElem?_eq_getElem (by rw[hlen];exact hi)] at this
  injection this with this
  rw[this]
 have CC:Hid (∀ wx,Ce w wx->Kp isL B w wx->Lx B wx l k S (lgR db bs sc run fs dur dead)->∃ a2 c2,wx.cell? ⟨l,7,none⟩=some (.slice a2 (plc 1 fs).length c2)/\Calls Tryz.prog 42 #[.slice a2 (plc 1 fs).length c2] wx fun e w'=>(∃ v',e=.returned v'/\OwnI wx.heap.size w' v' (plc 1 fs))/\Below wx.heap.size wx w'):=fun wx _ _ hx=>by
  obtain⟨a2,c2,q1,q2⟩:=hx.row
  exact⟨a2,c2,q1,clone_any q2 (by show(plc 1 fs).length<=1000000;omega)⟩
 have hle:=h.le
 have HLp:Hid (Ltp w):=h.g.lp
 have H:Hid (Lx B w l k S (lgR db bs sc run fs dur dead)):=h
 have hfl:fs.length<=70000:=by omega
 clear h h1 h2 c7 ho ho' hf hl
 rw[hlen] at CC c7'
 clear hlen
 go_enter Tryz.func17,Tryz.ntmps17
 go_wp2_with (go_at_call 41;refine CI.out.mono ?_;rintro e w0 ⟨rfl,rfl⟩)
 go_loopw [4,18] (fun sv ix wr=>∃ i:Nat,i<=fs.length/\ix=.int .i64 (i:Int)/\Rcs w0.heap.size wr sv ((fs.take i).map recF)/\Lx B wr l k S (lgR db bs sc run fs dur dead)/\Kp isL B w0 wr/\Ce w0 wr) (fun _ ix _=>fs.length-(intOf ix).toNat)
 case atStart=>exact⟨0,Nat.zero_le _,rfl,Rcs.nil _ _,H.out,Kp.refl _ _ _,Ce.of_below (Below.refl _ _)⟩
 case round =>
  obtain⟨i,hi,rfl,hR,hL,hK,hC⟩:=hrel
  by_cases hlt:i<fs.length
  ·obtain⟨g,rfl,cg⟩:=HP.out wr i hlt hC
   obtain⟨a3,c3,rfl⟩:=hR.slice
   have CR1:Hid (Calls Tryz.prog 34 #[.pointer (some ⟨l,0,none⟩),.int .i64 ((1+off fs i:Nat):Int)] wr fun e w'=>(∃ v n,e=.returned (.tuple #[v,.int .i64 n,.int .i64 0])/\RecF w' v (recF fs[i]) wr.heap.size)/\Lx B w' l k S (lgR db bs sc run fs dur dead)/\Kp isL B wr w'/\Ce wr w'):=CR.out wr i hlt hL
   have hm:Hid ((fs.take (i+1)).map recF=(fs.take i).map recF++[recF fs[i]]):=(by rw[List.take_succ_eq_append_getElem hlt,List.map_append];rfl:(fs.take (i+1)).map recF=(fs.take i).map recF++[recF fs[i]])
   obtain⟨M1,HM1⟩:∃ M1,Hid (M1=(fs.take (i+1)).map recF):=⟨_,rfl⟩
   rw[← HM1.out] at hm
   have hll:((fs.take i).map recF).length<=100000:=by simp;omega
   have hsep:Hid (∀ j,(Value.slice a3 ((fs.take i).map recF).length c3).ownBlock=some j->j<wr.heap.size):=(fun j e=>by
    obtain⟨es,_,hrow,_⟩:=hR.ex
    rcases hrow.2 with⟨e2,_⟩ |⟨b,cap,cur,e2,_,hgg,_⟩
    ·rw[e2] at e;simp[Value.ownBlock] at e
    ·rw[e2] at e
     simp[Value.ownBlock] at e
     subst e
     exact lt_of_some hgg:∀ j,(Value.slice a3 ((fs.take i).map recF).length c3).ownBlock=some j->j<wr.heap.size)
   have HR:Hid _:=hR
   have HK:Hid _:=hK
   have HC:Hid _:=hC
   have hi2:(i:Int)<(fs.length:Int):=by omega
   have hz0:=hC.size
   clear hR hK hC hL CR HP CC
   generalize ((1+off fs i:Nat):Int)=X at *
   generalize recF fs[i]=m at *
   obtain⟨s9,l9,g9⟩:=m
   generalize (fs.take i).map recF=ms at *
   go_wp2_with (first
    | (go_at_call 34;refine CR1.out.mono ?_;rintro e w1 ⟨⟨v,n,rfl,hv⟩,L1,k1,q1⟩;have R1:=HR.out.kept q1 (fun j cur fz e=>k1.block j _ e (by simp[isL]));have K1:Hid (Kp isL B w0 w1):=HK.out.trans k1;have C1:Hid (Ce w0 w1):=HC.out.trans q1;obtain⟨I,T,rfl,hI,hT⟩:=hv.ex;dsimp only at hI hT;clear HR HK HC)
    | (refine wpList_new_rc _ rfl rfl ?_;intro w2 b7 N2)
    | (refine wpList_at (Op.store 54 (.tmp 7) (.tmp 26)) rfl ?_;refine wpList_put_rc (s':=s9) (I':=I) (T':=T) _ rfl (.tmp 7) (.tmp 26) rfl rfl rfl N2.rc hI.slI.one hT.slT.one ?_;intro w3 P3;have b13:Below w1.heap.size w1 w3:=N2.below.trans (P3.below (by have:=N2.eq;omega) N2.below.size))
    | (refine wpList_load_rc _ rfl (.tmp 7) rfl rfl P3.rc ?_)
    | (refine wpList_build_rc (s:=s9) (I:=I) (T:=T) _ rfl (.tmp 30) rfl rfl ?_;intro w4 b8 N4;have bA:Below w1.heap.size w1 w4:=thn b13 N4.below;have R4:=R1.below bA;have I4:=hI.below bA;have T4:=hT.below bA;have rcA:=N4.rc;have L4:=L1.below bA;have K4:Hid (Kp isL B w0 w4):=K1.out.below bA hle;have C4:Hid (Ce w0 w4):=C1.out.trans (Ce.of_below bA);have hz4:=C4.out.size)
    | (at_builtin;refine wpList_append_rcs (B:=w0.heap.size) (m:=⟨s9,l9,g9⟩) rfl (.tmp 29) (.tmp 31) rfl rfl R4 rfl rcA (I4.mono hz0) (T4.mono hz0) (I4.apart hsep.out) (T4.apart hsep.out) hz4 hll (fun j hj=>HLp.out.new hj) ?_;intro v' w5 R5 k5;rw[← hm.out] at R5;obtain⟨a5,c5,rfl⟩:=R5.slice;have L5:=L4.keptR k5;have K5:Hid (Kp isL B w0 w5):=⟨K4.out.bel.trans (k5.bel.mono hle),fun j o e hn=>by
      have e4:=K4.out.block j o e hn
      exact(k5.bel.block j (lt_of_some e)).trans e4,fun j o e hn=>k5.prot j o (K4.out.prot j o e hn) hn⟩;have C5:Hid (Ce w0 w5):=⟨Nat.le_trans C4.out.size k5.size,fun p hp=>(World.cell?_of_block (k5.bel.block _ hp)).trans (C4.out.cell p hp)⟩))
   go_roundw
   case rel=>exact⟨i+1,by omega,by go_num,by rw[← HM1.out];exact R5,L5,K5.out,C5.out⟩
   case measure=>simp[intOf];omega
  ·obtain rfl:i=fs.length:=by omega
   have hi2:¬ (fs.length:Int)<(fs.length:Int):=by omega
   rw[List.take_length] at hR
   obtain⟨a2,c2,q7,CC1⟩:=CC.out wr hC hK hL
   have HC1:Hid (Calls Tryz.prog 42 #[.slice a2 fs.length c2] wr fun e w'=>(∃ v',e=.returned v'/\OwnI wr.heap.size w' v' (plc 1 fs))/\Below wr.heap.size wr w'):=CC1
   have HR:Hid _:=hR
   have HK:Hid _:=hK
   have HL:Hid _:=hL
   have hz:=hC.size
   have H7:Hid (∃ pv,wr.cell? ⟨l,7,none⟩=some pv/\l<wr.heap.size/\∀ g,pv.ownBlock=some g->g<wr.heap.size):=by
    obtain⟨a5,c5,r1,r2⟩:=hL.row
    obtain⟨p,v9,pv,h1,_⟩:=hL.g.ex
    refine⟨_,r1,lt_of_some h1,fun g e=>?_⟩
    obtain⟨_,r3⟩:=r2.row
    rcases r3 with⟨r3,_⟩ |⟨g',cap,cur,e',hB,hg,_⟩
    ·rw[r3] at e;cases e
    ·rw[e'] at e
     have:g'=g:=by simpa[Value.ownBlock] using e
     subst this
     exact lt_of_some hg
   obtain⟨a3,c3,e3⟩:=hR.slice
   subst e3
   clear CC1 CC CR HP hR hK hL hC
   generalize (fs.map recF).length=n3 at *
   go_wp2_with (go_at_call 42;refine HC1.out.mono ?_;rintro e w2 ⟨⟨v',rfl,hO⟩,b2⟩)
   go_ret2
   refine⟨⟨_,_,rfl,HR.out.below b2,?_,?_⟩,HL.out.below b2,HK.out.below b2 hle⟩
   rotate_left
   ·obtain⟨pv,k1,k2,k3⟩:=H7.out
    refine⟨pv,by rw[World.cell?_of_block (b2.block l k2)];exact k1,fun g e e2=>?_⟩
    have:=k3 g e2
    obtain⟨_,r3⟩:=hO.row
    rcases r3 with⟨r3,_⟩ |⟨g',cap,cur,e',hB,hg,_⟩
    ·rw[r3] at e;cases e
    ·rw[e'] at e
     have:g'=g:=by simpa[Value.ownBlock] using e
     omega
   obtain⟨q1,q2⟩:=hO.row
   refine⟨q1,?_⟩
   rcases q2 with q2 |⟨g,cap,cur,e,hB,hg,q3⟩
   ·exact Or.inl q2
   ·exact Or.inr ⟨g,cap,cur,e,by omega,hg,q3⟩
end
structure Qs (S:Dk) (bs sc r:Nat) (Q:Nat->Sec):Prop where
 now:∀ i,i<sc->S.now (bs+i)=encQ (Q i)
 run:∀ i,i<sc->(Q i).1<=r
 sz:∀ i,i<sc->(Q i).2.size<=58
 wait:∀ i,S.wait i=none
structure Lv [Inhabited PrSet] (B:Nat) (w:World) (l k:Nat) (S:Dk) (db bs sc run:Nat) (fs:List ByteArray) (sure:Nat):Prop where
 lx:Lx B w l k S (lgR db bs sc run fs (off fs sure) false)
 up:S.up=true
 fit:Fit sc fs
 hs:sure<=fs.length
 n:bs+sc<=S.n
 r2:run<=4294967295
 q:∃ Q,Qs S bs sc run Q/\Std Q sc run (cat (fs.take sure))
structure Wt (S:Dk) (bs sc r:Nat) (fs:List ByteArray) (lo:Nat):Prop where
 q:∃ Q,Qs S bs sc r Q/\∀ run,r<=run->∃ x,cat fs=stand Q run sc++x/\off fs lo<=(stand Q run sc).size
section
variable {fs:List ByteArray}
theorem fs_split (fs:List ByteArray) (i:Nat):cat fs=cat (fs.take i)++cat (fs.drop i):=by rw[← cat_append,List.take_append_drop]
end
section
variable [Inhabited PrSet]{B l k db bs sc run sure:Nat}{w w':World}{S:Dk}{fs:List ByteArray}
theorem Lv.below (h:Lv B w l k S db bs sc run fs sure) (hb:Below w.heap.size w w'):Lv B w' l k S db bs sc run fs sure:=⟨h.lx.below hb,h.up,h.fit,h.hs,h.n,h.r2,h.q⟩
end
section
variable {bs sc run r:Nat}{S S':Dk}{Q:Nat->Sec}
theorem Qs.laid (h:Qs S bs sc r Q) {t:ByteArray} {rr a b:Nat} (hr:r<=rr) (hL:Laid S S' (nw bs t rr a b) 0):Qs S' bs sc rr (putQ Q t rr a b):=by
 obtain⟨hu,hw,hsu⟩:=hL.ok rfl
 refine⟨fun i hi=>?_,fun i hi=>?_,fun i hi=>?_,hw⟩
 ·unfold Dk.now
  rw[hw,hsu]
  show(nw bs t rr a b (bs+i)).getD (S.now (bs+i))=_
  unfold nw putQ
  by_cases hc:a<=i/\i<b
  ·rw[if_pos (by omega),if_pos hc,show bs+i-bs=i by omega];rfl
  ·rw[if_neg (by omega),if_neg hc]
   exact h.now i hi
 ·unfold putQ
  split
  ·exact Nat.le_refl _
  ·exact Nat.le_trans (h.run i hi) hr
 ·unfold putQ
  split
  ·exact part_le t i
  ·exact h.sz i hi
end
section
variable {sc:Nat}{fs:List ByteArray}
theorem Fit.take (h:Fit sc fs) (i:Nat):Fit sc (fs.take i):=by
 refine⟨fun f hf=>h.frm f (List.mem_of_mem_take hf),?_,h.s0,h.s1⟩
 have e:=fs_split fs i
 have:=h.sz
 rw[e,bsz] at this
 omega
end
section
variable {sc:Nat}{fs gs:List ByteArray}
theorem Fit.snoc (h:Fit sc fs) {gs:List ByteArray} (hg:∀ g∈gs,Frm g) (hz:(cat fs).size+(cat gs).size<=58*sc):Fit sc (fs++gs):=⟨fun f hf=>by
 rcases List.mem_append.1 hf with q |q
 ·exact h.frm f q
 ·exact hg f q,by rw[cat_append,bsz];exact hz,h.s0,h.s1⟩
end
section
variable [Inhabited PrSet]{B l k db bs sc run r sure lo:Nat}{w w':World}{S S':Dk}{fs gs:List ByteArray}{Q:Nat->Sec}
theorem Lv.grown (h:Lv B w l k S db bs sc run fs sure) {gs:List ByteArray} (hg:∀ g∈gs,Frm g) (hz:(cat fs).size+(cat gs).size<=58*sc) (hl:Lx B w' l k S (lgR db bs sc run (fs++gs) (off fs sure) false)):Lv B w' l k S db bs sc run (fs++gs) sure:=by
 have e:(fs++gs).take sure=fs.take sure:=List.take_append_of_le_length h.hs
 have e2:off (fs++gs) sure=off fs sure:=by unfold off;rw[e]
 refine⟨by rw[e2];exact hl,h.up,h.fit.snoc hg hz,by rw[List.length_append];have:=h.hs;omega,h.n,h.r2,?_⟩
 rw[e]
 exact h.q
theorem Wt.open2 (h:Wt S bs sc r fs lo) (hF:Fit sc fs) (hlo:lo<=fs.length) (hd:Ds B w db k S) (hk:k<=300000000000) (hrun:r<run) (hr2:run<=4294967295) (hfit:bs+sc<=S.n) (hu:S.up=true) (hc:S.set=false) :
  Calls Tryz.prog 8 #[.pointer (some ⟨db,0,none⟩),.int .i64 (bs:Int),.int .i64 (sc:Int),.int .i64 (run:Int)] w fun e w' =>
   ∃ j S' l,e=.returned (.tuple #[.pointer (some ⟨l,0,none⟩),.int .i64 0])/\(lo<=j/\j<=fs.length/\S'.set=false/\S'.n=S.n)/\Lv B w' l (k+sc+1) S' db bs sc run (fs.take j) j/\Kp isA B w w'/\Opn S S' bs sc run (cat (fs.take j)):=by
 obtain⟨Q,hQ,hst⟩:=h.q
 refine(Open_calm hd hk bs sc run hF.s0 hF.s1 (by omega) hr2 hfit hu hc Q (fun i hi=>⟨hQ.now i hi,by have:=hQ.run i hi;omega,hQ.sz i hi⟩)).mono ?_
 rintro e w' ⟨gs,S',l,rfl,hsp,hop,hlx,hK⟩
 obtain⟨x,hx,hlow⟩:=hst run (Nat.le_of_lt hrun)
 obtain⟨j,hj,rfl,hmax⟩:=Spl.take fs gs _ x hF.frm hx hsp
 have hlj:lo<=j:=hmax lo hlo hlow
 have hjl:(fs.take j).length=j:=by rw[List.length_take];omega
 obtain⟨y,hy⟩:=hsp.pre
 have hstd:=std_new (Q:=Q) (secs:=sc) (r:=run) (T:=cat (fs.take j)) (x:=y) (fun i hi=>by have:=hQ.run i hi;omega) hQ.sz hy (hF.take j).sz (by omega)
 have mk:S'.up=true->S'.n=S.n->(∃ Q',Qs S' bs sc run Q'/\Std Q' sc run (cat (fs.take j)))->Lv B w' l (k+sc+1) S' db bs sc run (fs.take j) j:=fun hu' hn' hq=>by
  refine⟨?_,hu',hF.take j,by omega,by rw[hn'];exact hfit,hr2,by rw[List.take_take,Nat.min_self];exact hq⟩
  have:off (fs.take j) j=(cat (fs.take j)).size:=by unfold off;rw[List.take_take,Nat.min_self]
  rw[this]
  exact hlx
 have hop2:=hop
 rcases hop with⟨h1,rfl⟩ |⟨h1,hLd⟩
 ·refine⟨j,_,l,rfl,⟨hlj,hj,hc,rfl⟩,mk hu rfl ⟨Q,⟨hQ.now,fun i hi=>by have:=hQ.run i hi;omega,hQ.sz,hQ.wait⟩,?_⟩,hK,hop2⟩
  have e:putQ Q (cat (fs.take j)) run ((cat (fs.take j)).size / 58) (min ((cat (fs.take j)).size / 58+1) sc)=Q:=by
   funext i
   exact putQ_out (by omega)
  rw[e] at hstd
  exact hstd
 ·obtain⟨hu',_,_⟩:=hLd.ok rfl
  exact⟨j,S',l,rfl,⟨hlj,hj,(hLd.calm hc).2,hLd.n⟩,mk hu' hLd.n ⟨_,hQ.laid (Nat.le_of_lt hrun) hLd,hstd⟩,hK,hop2⟩
theorem Wt.open_ (h:Wt S bs sc r fs lo) (hF:Fit sc fs) (hlo:lo<=fs.length) (hd:Ds B w db k S) (hk:k<=300000000000) (hrun:r<run) (hr2:run<=4294967295) (hfit:bs+sc<=S.n) (hu:S.up=true) (hc:S.set=false) :
  Calls Tryz.prog 8 #[.pointer (some ⟨db,0,none⟩),.int .i64 (bs:Int),.int .i64 (sc:Int),.int .i64 (run:Int)] w fun e w' =>
   ∃ j S' l,e=.returned (.tuple #[.pointer (some ⟨l,0,none⟩),.int .i64 0])/\(lo<=j/\j<=fs.length/\S'.set=false/\S'.n=S.n)/\Lv B w' l (k+sc+1) S' db bs sc run (fs.take j) j/\Kp isA B w w':=by
 refine(h.open2 hF hlo hd hk hrun hr2 hfit hu hc).mono ?_
 rintro e w' ⟨j,S',l,h1,h2,h3,h4,_⟩
 exact⟨j,S',l,h1,h2,h3,h4⟩
end
open Go.RowKit
section
variable {bs sc:Nat}
theorem new_wt (n bs sc:Nat) (h:1<=sc):Wt (newDk n) bs sc 0 [] 0:=by
 refine⟨fun _=>(0,⟨#[]⟩),⟨fun i hi=>?_,fun i hi=>Nat.le_refl _,fun i hi=>Nat.zero_le _,fun i=>rfl⟩,fun rn hr=>⟨⟨#[]⟩,?_,Nat.zero_le _⟩⟩
 ·rw[enc_zero];rfl
 ·obtain⟨m,rfl⟩:∃ m,sc=m+1:=⟨sc-1,by omega⟩
  show cat []=stK _ rn (m+1) 0 1++_
  rw[stK,if_pos (Or.inl (by show 0<1;omega))]
  rfl
end
section
variable {sc:Nat}
theorem fit_nil (h0:1<=sc) (h1:sc<=8000):Fit sc []:=⟨(fun f hf=>by cases hf),Nat.zero_le _,h0,h1⟩
end
section
variable [Inhabited PrSet]{B l k db bs sc run sure:Nat}{w w':World}{S:Dk}{fs:List ByteArray}
theorem Lv.append {v:Value} {m:Rm} (h:Lv B w l k S db bs sc run fs sure) (hv:RecV w v m) (hm:Small m) (he:(frameM m).2=0) (hn:(cat fs).size+(frameM m).1.size<=58*sc) :
  Calls Tryz.prog 23 #[.pointer (some ⟨l,0,none⟩),v] w fun e w'=>e=.returned (.tuple #[.int .i64 (((cat fs).size:Int)+1),.int .i64 0])/\Lv B w' l k S db bs sc run (fs++[(frameM m).1]) sure/\Kp isL B w w':=by
 refine(append_ok h.lx h.fit hv hm he hn).mono ?_
 rintro e w' ⟨he',h1,k1⟩
 refine⟨he',h.grown (fun g hg=>by rw[List.mem_singleton] at hg;subst hg;exact frm_good he) ?_ h1,k1⟩
 rw[cat,cat,app_nil];exact hn
end
structure RsV (w:World) (a:Option Addr) (n:Nat) (ms:List Rm):Prop where
 len:ms.length=n
 at_:∀ i,(h:i<ms.length)->∃ g o I T,a=some ⟨g,o,none⟩/\g<w.heap.size/\w.rangeAt g (o+i*13) ((ms[i].s.A I T).toList)/\RecV w (.agg (ms[i].s.A I T)) ms[i]/\Held ms[i]
section
variable {w w':World}
theorem wpList_load_rcs {ops:Array Oper} {rest:List Oper} {o:Oper} {a:Act} {Q:Exit->Act->World->Prop} {g of:Nat} {s:Sc} {I T:Value} (w:World) (hg:o.guard=none) (x:Operand) (hop:o.op=Op.load 54 x) (hx:a.eval x=.pointer (some ⟨g,of,none⟩)) (hr:w.rangeAt g of ((s.A I T).toList))
  (h:wpList Tryz.prog ops Q rest (a.put o.dst (.agg (s.A I T))) w):wpList Tryz.prog ops Q (o ::rest) a w :=
 wpList_load_mid hg 54 x hop g of hx _ _ hr Tryz.underlying54 rfl (info_rc s I T) h
theorem rangeAt_below {g o:Nat} {L:List Value} (h:w.rangeAt g o L) (hg:g<w.heap.size) (hb:Below w.heap.size w w'):w'.rangeAt g o L:=fun j u hu=>(World.cell?_of_block (hb.block g hg)).trans (h j u hu)
end
section
variable [Inhabited PrSet]{B l k db bs sc run sure:Nat}{w w':World}{S:Dk}{fs:List ByteArray}
theorem Lv.appendAny {v:Value} {m:Rm} (h:Lv B w l k S db bs sc run fs sure) (hv:RecV w v m) (hm:Small m) :
  Calls Tryz.prog 23 #[.pointer (some ⟨l,0,none⟩),v] w fun e w'=>∃ x y fs',e=.returned (.tuple #[.int .i64 x,.int .i64 y])/\Lv B w' l k S db bs sc run fs' sure/\Kp isL B w w'/\((y=0/\(frameM m).2=0/\fs'=fs++[(frameM m).1]/\x=((cat fs).size:Int)+1/\(cat fs).size+(frameM m).1.size<=58*sc)∨(y≠0/\fs'=fs/\x=0/\(((frameM m).2≠0/\y=(frameM m).2)∨((frameM m).2=0/\y=7/\¬ (cat fs).size+(frameM m).1.size<=58*sc)))):=by
 have hle:=h.lx.le
 by_cases he:(frameM m).2=0
 ·by_cases hn:(cat fs).size+(frameM m).1.size<=58*sc
  ·refine(h.append hv hm he hn).mono ?_
   rintro e w' ⟨he',h1,k1⟩
   exact⟨_,_,_,he',h1,k1,Or.inl ⟨rfl,he,rfl,rfl,hn⟩⟩
  ·refine(append_full h.lx h.fit hv hm he hn).mono ?_
   rintro e w' ⟨he',b1⟩
   exact⟨_,_,_,he',h.below b1,Kp.of_below b1 hle,Or.inr ⟨by omega,rfl,rfl,Or.inr ⟨he,rfl,hn⟩⟩⟩
 ·refine(append_err h.lx h.fit hv hm he).mono ?_
  rintro e w' ⟨he',b1⟩
  exact⟨_,_,_,he',h.below b1,Kp.of_below b1 hle,Or.inr ⟨he,rfl,rfl,Or.inl ⟨he,rfl⟩⟩⟩
end
end Go.Proofs.YtjlhohljkedbbaaGreat
namespace Go.Proofs.YtjlhohljkedbbaaGreat.Gm
open Go.RowKit
theorem lt_of {w:World} {j:Nat} {o:Obj} (h:w.heap[j]?=some o):j<w.heap.size:=(Array.getElem?_eq_some_iff.1 h).1
theorem thn {w w1 w2:World} (h:Below w.heap.size w w1) (k:Below w1.heap.size w1 w2):Below w.heap.size w w2:=h.trans (k.mono h.size)
theorem bl1 {w:World} (o:Obj):Below w.heap.size w (w.alloc o):=(Below.refl _ _).alloc (Nat.le_refl _) _
theorem bdr {w w':World} {B:Nat} (h:Below B w w') (q:Nat):Below B w (w'.drewN q):=⟨h.os,h.tape,h.output,h.size,h.block⟩
structure Fr (W W':Nat->Prop) (w w':World):Prop where
 os:w'.os=w.os
 tape:w'.tape=w.tape
 output:w'.output=w.output
 size:w.heap.size<=w'.heap.size
 blk:∀ j,j<w.heap.size->¬ W j->w'.heap[j]?=w.heap[j]?
 sub:∀ j,W' j->W j∨w.heap.size<=j
section
variable {W W' W2 V:Nat->Prop}{w w' w2:World}
theorem Fr.refl (W:Nat->Prop) (w:World):Fr W W w w:=⟨rfl,rfl,rfl,Nat.le_refl _,fun _ _ _=>rfl,fun _ h=>Or.inl h⟩
theorem Fr.trans (h:Fr W W' w w') (k:Fr W' W2 w' w2):Fr W W2 w w2:=⟨k.os.trans h.os,k.tape.trans h.tape,k.output.trans h.output,Nat.le_trans h.size k.size,fun j hj hn=>(k.blk j (Nat.lt_of_lt_of_le hj h.size) (fun e=>(h.sub j e).elim hn (fun e2=>by omega))).trans (h.blk j hj hn),fun j hj=>(k.sub j hj).elim (h.sub j) (fun e=>Or.inr (Nat.le_trans h.size e))⟩
theorem Fr.of_below (h:Below w.heap.size w w') (W:Nat->Prop):Fr W W w w':=⟨h.os,h.tape,h.output,h.size,fun j hj _=>h.block j hj,fun _ h=>Or.inl h⟩
theorem Fr.below (h:Fr W W' w w') (k:Below w'.heap.size w' w2):Fr W W' w w2:=h.trans (Fr.of_below k W')
theorem Fr.not (h:Fr W W' w w') {j:Nat} (hj:j<w.heap.size) (hn:¬ W j):¬ W' j:=fun e=>(h.sub j e).elim hn (fun e2=>by omega)
theorem Fr.more (h:Fr W W' w w') (hV:∀ j,V j->W j∨w.heap.size<=j):Fr W V w w':=⟨h.os,h.tape,h.output,h.size,h.blk,hV⟩
theorem Fr.grown {r:Option Nat} (h:w.grownBy w' r) (hr:∀ g,r=some g->W g):Fr W W w w':=⟨h.os,h.tape,h.output,h.size,fun j hj hn=>h.block j hj (fun e=>hn (hr j e.symm)),fun _ h=>Or.inl h⟩
theorem Fr.bel {B:Nat} (h:Fr W W' w w') (hW:∀ j,W j->B<=j) (hB:B<=w.heap.size):Below B w w':=⟨h.os,h.tape,h.output,h.size,fun k hk=>h.blk k (Nat.lt_of_lt_of_le hk hB) (fun e=>by have:=hW k e;omega)⟩
end
structure At (w:World) (b:Nat) (t:TypeId) (A:Array Value):Prop where
 blk:w.heap[b]?=some (.cells A t)
section
variable {w w':World}{b:Nat}{t:TypeId}{A A':Array Value}{W W':Nat->Prop}
theorem At.c (h:At w b t A) (i:Nat):w.cell? ⟨b,i,none⟩=A[i]?:=Joins.cell_of_block h.blk i
theorem At.f (h:At w b t A) (i:Nat):w.frozen? ⟨b,i,none⟩=false:=Joins.unfrozen_of_block h.blk i
theorem At.lt (h:At w b t A):b<w.heap.size:=lt_of h.blk
theorem At.keep (h:At w b t A) (hb:w'.heap[b]?=w.heap[b]?):At w' b t A:=⟨hb.trans h.blk⟩
theorem At.bel (h:At w b t A) (hb:Below w.heap.size w w'):At w' b t A:=h.keep (hb.block b h.lt)
theorem At.fr (h:At w b t A) (hf:Fr W W' w w') (hn:¬ W b):At w' b t A:=h.keep (hf.blk b h.lt hn)
theorem At.new (w:World) (A:Array Value) (t:TypeId):At (w.alloc (.cells A t)) w.heap.size t A:=⟨(MapKept.heap_alloc w _).1⟩
theorem At.set (h:At w b t A) (i:Nat) (v:Value):At (w.setCell ⟨b,i,none⟩ v) b t (A.setIfInBounds i v):=⟨Joins.block_setCell h.blk _⟩
theorem At.range (h:At w b t A):w.rangeAt b 0 A.toList:=fun j v hv=>by
 rw[Nat.zero_add,h.c];simpa using hv
theorem At.tag (h:At w b t A) {t':TypeId} {A':Array Value} (h':w.heap[b]?=some (.cells A' t')):t'=t:=by
 rw[h.blk] at h';simp at h';exact h'.2.symm
end
structure St (t:TypeId) (k:Nat):Prop where
 un:∃ fs,Tryz.prog.underlying t=some (.struct fs)
 info:(Tryz.prog.info? t).map (·.size)=some k
structure New (w w':World) (b:Nat) (t:TypeId) (A:Array Value):Prop where
 is:At w' b t A
 bel:Below w.heap.size w w'
 eq:b=w.heap.size
structure Put (w w':World) (b:Nat) (t:TypeId) (A:Array Value):Prop where
 is:At w' b t A
 off:∀ j,j≠b->w'.heap[j]?=w.heap[j]?
 fr:∀ W:Nat->Prop,W b->Fr W W w w'
section
variable {ops:Array Oper}{rest:List Oper}{o:Oper}{a:Act}{Q:Exit->Act->World->Prop}{t:TypeId}{k:Nat}{A A':Array Value}
theorem wpList_new_at (w:World) (hz:∀ w,(zeroValue t).run Tryz.prog w=.ok (.agg A) w) (hg:o.guard=none) (hop:o.op=Op.alloc t)
  (h:∀ w' b,New w w' b t A->wpList Tryz.prog ops Q rest (a.put o.dst (.pointer (some ⟨b,0,none⟩))) w'):wpList Tryz.prog ops Q (o ::rest) a w:=by
 refine wpList_plain hg fun K' hK'=>?_
 unfold Oper.wp
 simp[execOp,hop,Instr.alloc,hz,Result.andThen,Value.cells]
 exact hK' _ _ (h _ _ ⟨At.new _ _ _,bl1 _,rfl⟩)
theorem setCells_at {w:World} {b:Nat} (h:At w b t A) (hk:A'.size=A.size) (h1:∀ v∈A'.toList,v.oneCell'=true):w.setCells b 0 A'.toList=w.setRow b A':=by
 have hth:∀ j,j<A.size->((w.cell? ⟨b,0+j,none⟩).isSome=true):=fun j hj=>by
  rw[h.c]
  simp[hj]
 have e1:=run_storeCells_at Tryz.prog b 0 t A'.toList 0 A w h.blk (by simp[hk]) h1
 have e2:=run_storeCells_cells (P:=Tryz.prog) b 0 A'.toList 0 w (fun j hj=>by have:=hth j (by rw[← hk];simpa using hj);simpa using this) (fun j hj=>by have:=h.f (0+0+j);simpa using this) h1
 have e:(List.take (0+0) A.toList++A'.toList++List.drop (0+0+A'.toList.length) A.toList).toArray=A':=by
  have:List.drop (0+0+A'.toList.length) A.toList=[]:=List.drop_eq_nil_of_le (by simp[hk])
  rw[this]
  simp
 rw[e,e2] at e1
 simpa using e1
theorem wpList_put_at (hS:St t k) {b:Nat} (w:World) (hg:o.guard=none) (x y:Operand) (hop:o.op=Op.store t x y)
  (hx:a.eval x=.pointer (some ⟨b,0,none⟩)) (hy:a.eval y=.agg A') (hs:At w b t A) (hk:A.size=k) (hk':A'.size=k) (h1:∀ v∈A'.toList,v.oneCell'=true)
  (h:∀ w',Put w w' b t A'->wpList Tryz.prog ops Q rest (a.put o.dst undef) w'):wpList Tryz.prog ops Q (o ::rest) a w:=by
 refine wpList_store_mid hg t x y hop b 0 A' hx hy ?_ (by rw[hk'];exact hS.info) (Array.all_eq_true_iff_forall_mem.2 (fun v hv=>h1 v (by simpa using hv))) ?_
 ·intro j hj
  refine⟨?_,hs.f _⟩
  rw[hs.c]
  have:j<A.size:=by omega
  simp[this]
 ·rw[setCells_at hs (by omega) h1]
  refine h _ ⟨⟨setRow_heap w b _ _ t _ hs.blk⟩,fun k hk=>setRow_other w b k _ hk,fun W hW=>⟨rfl,rfl,rfl,by simp,fun k _ hk=>setRow_other w b k _ (fun e=>hk (e ▸ hW)),fun _ h=>Or.inl h⟩⟩
theorem run_set1 {b k:Nat} {u v:Value} (w:World) (t:TypeId) (hu:w.cell? ⟨b,k,none⟩=some u) (hf:w.frozen? ⟨b,k,none⟩=false) (h1:v.oneCell'=true) (hi:(Tryz.prog.info? t).map (·.size)=some 1):(Instr.storeAt t (.pointer (some ⟨b,k,none⟩)) v).run Tryz.prog w=.ok () (w.setCell ⟨b,k,none⟩ v):=by
 have hcs:v.cells=#[v]:=by cases v <;> first |rfl |cases h1
 have g1:∀ j,j<[v].length->(w.cell? ⟨b,k+0+j,none⟩).isSome=true:=by
  intro j hj
  obtain rfl:j=0:=by simpa using hj
  simp[hu]
 have g2:∀ j,j<[v].length->w.frozen? ⟨b,k+0+j,none⟩=false:=by
  intro j hj
  obtain rfl:j=0:=by simpa using hj
  simpa using hf
 have:=run_storeCells_cells (P:=Tryz.prog) b k [v] 0 w g1 g2 (fun x hx=>by simp at hx;subst hx;exact h1)
 cases hq:Tryz.prog.info? t with
 | none=>simp[hq] at hi
 | some i =>
  have hs:i.size=1:=by simpa[hq] using hi
  simp only[Nat.add_zero] at this
  simp[Instr.storeAt,Instr.sureAddr,storeVar,sizeOf,typeInfo,hq,hcs,hs,this,World.setCells]
theorem wpList_set1 {b k':Nat} {u v:Value} (w:World) (hg:o.guard=none) (t:TypeId) (x y:Operand) (hop:o.op=Op.store t x y) (hx:a.eval x=.pointer (some ⟨b,k',none⟩)) (hy:a.eval y=v) (hu:w.cell? ⟨b,k',none⟩=some u) (hf:w.frozen? ⟨b,k',none⟩=false) (h1:v.oneCell'=true) (hi:(Tryz.prog.info? t).map (·.size)=some 1)
  (h:∀ w',w'=w.setCell ⟨b,k',none⟩ v->wpList Tryz.prog ops Q rest (a.put o.dst undef) w'):wpList Tryz.prog ops Q (o ::rest) a w:=by
 refine wpList_plain hg fun K' hK'=>?_
 have hrun:=run_set1 (v:=v) w t hu hf h1 hi
 unfold Oper.wp
 simp[execOp,hop,hx,hy,hrun,Result.andThen]
 exact hK' _ _ (h _ rfl)
end
structure Row (w:World) (t:TypeId) (k:Nat) (v:Value) (L:List (List Value)):Prop where
 ks:∀ c∈L,c.length=k
 row:w.ownsRow 0 t k v L.length L.flatten
theorem flat_len {k:Nat}:∀ {L:List (List Value)},(∀ c∈L,c.length=k)->L.flatten.length=L.length*k
 | [],_=>by simp
 | c :: L,h=>by
  have:=flat_len (L:=L) (fun d hd=>h d (List.mem_cons_of_mem _ hd))
  simp only[List.flatten_cons,List.length_append,this,h c (List.mem_cons_self ..),List.length_cons,Nat.add_mul]
  omega
theorem flat_get {k:Nat}:∀ {L:List (List Value)},(∀ c∈L,c.length=k)->∀ (i:Nat) (hi:i<L.length) (j:Nat),j<k->L.flatten[i*k+j]?=(L[i])[j]?
 | [],_,i,hi,_,_=>absurd hi (Nat.not_lt_zero _)
 | c :: L,h,i,hi,j,hj=>by
  have hc:=h c (List.mem_cons_self ..)
  cases i with
  | zero=>rw[List.flatten_cons,Nat.zero_mul,Nat.zero_add,List.getElem?_append_left (by rw[hc];exact hj)];rfl
  | succ i =>
   have:=flat_get (L:=L) (fun d hd=>h d (List.mem_cons_of_mem _ hd)) i (by simpa using hi) j hj
   rw[List.flatten_cons,List.getElem?_append_right (by rw[hc,Nat.add_mul];omega),hc,show(i+1)*k+j-k=i*k+j by rw[Nat.add_mul];omega,this]
   rfl
section
variable {w w':World}{t:TypeId}{k:Nat}{v:Value}{L:List (List Value)}{W W':Nat->Prop}
theorem Row.nil (w:World) (t:TypeId) (k:Nat):Row w t k (.slice none 0 0) []:=⟨(fun c h=>by cases h),by simp,Or.inl ⟨rfl,rfl⟩⟩
theorem Row.sl (h:Row w t k v L):∃ a c,v=.slice a L.length c/\L.length<=c:=by
 rcases h.row.2 with⟨h1,h2⟩ |⟨g,cap,cur,e,_,_,h3,_⟩
 ·exact⟨none,0,by rw[h1,h2],by omega⟩
 ·exact⟨_,_,e,h3⟩
theorem Row.blkAt {g:Nat} (h:Row w t k v L) (e:v.ownBlock=some g):∃ cur,w.heap[g]?=some (.cells cur t):=by
 rcases h.row.2 with⟨h1,h2⟩ |⟨g',cap,cur,e',hB,hg,h3⟩
 ·rw[h1] at e;cases e
 ·rw[e'] at e;cases e;exact⟨cur,hg⟩
theorem Row.lt {g:Nat} (h:Row w t k v L) (e:v.ownBlock=some g):g<w.heap.size:=by obtain⟨cur,hc⟩:=h.blkAt e;exact lt_of hc
theorem Row.ne {g b:Nat} {t':TypeId} {A:Array Value} (h:Row w t k v L) (hb:At w b t' A) (ht:t≠t'):v.ownBlock≠some b:=fun e=>by
 obtain⟨cur,hc⟩:=h.blkAt e
 exact ht (hb.tag hc)
theorem Row.keep (h:Row w t k v L) (hb:∀ g,v.ownBlock=some g->w'.heap[g]?=w.heap[g]?):Row w' t k v L:=by
 refine⟨h.ks,h.row.1,?_⟩
 rcases h.row.2 with h2 |⟨g,cap,cur,e,hB,hg,h3⟩
 ·exact Or.inl h2
 ·exact Or.inr ⟨g,cap,cur,e,hB,(hb g (by rw[e];rfl)).trans hg,h3⟩
theorem Row.bel (h:Row w t k v L) (hb:Below w.heap.size w w'):Row w' t k v L:=h.keep fun g e=>hb.block g (h.lt e)
theorem Row.fr (h:Row w t k v L) (hf:Fr W W' w w') (hn:∀ g,v.ownBlock=some g->¬ W g):Row w' t k v L:=h.keep fun g e=>hf.blk g (h.lt e) (hn g e)
theorem Row.at_ {a:Option Addr} {n c:Nat} (h:Row w t k (.slice a n c) L) {i:Nat} (hi:i<L.length):∃ g,a=some ⟨g,0,none⟩/\g<w.heap.size/\∀ w':World,w'.heap[g]?=w.heap[g]?->w'.rangeAt g (i*k) L[i]/\∀ j,w'.frozen? ⟨g,j,none⟩=false:=by
 rcases h.row.2 with⟨_,h2⟩ |⟨g,cap,cur,e,hB,hg,h3,h4,h5,h6⟩
 ·omega
 ·cases e
  refine⟨g,rfl,lt_of hg,fun w' hw=>⟨?_,fun j=>Joins.unfrozen_of_block (hw.trans hg) j⟩⟩
  intro j u hu
  have hj:j<k:=by
   have:=(List.getElem?_eq_some_iff.1 hu).1
   rwa [h.ks _ (List.getElem_mem hi)] at this
  have hk:=flat_get h.ks i hi j hj
  rw[hu] at hk
  rw[cell_of_row w' g _ cur t (0,0) (hw.trans hg)]
  rw[← h6,List.getElem?_take] at hk
  split at hk
  ·simpa using hk
  ·cases hk
end
structure El (sl el:TypeId) (k:Nat) (z:Value):Prop where
 un:Tryz.prog.underlying sl=some (.slice el)
 info:∃ i,Tryz.prog.info? el=some i/\i.zero=some z/\i.size=k/\i.bytes<=200
 zc:z.cells.size=k
 k0:0<k
theorem append_gen {sl el:TypeId} {k:Nat} {z:Value} (hE:El sl el k z) {w:World} {v:Value} {L M:List (List Value)} (hR:Row w el k v L) (g of c:Nat) (hM:∀ d∈M,d.length=k)
  (hnews:∀ j u,M.flatten[j]?=some u->w.cell? ⟨g,of+j,none⟩=some u) (h1:∀ u∈M.flatten,u.oneCell'=true) (hn:L.length+M.length<=100000) (ty:TypeId) :
  ∃ v' w',(Builtin.append_ #[sl,sl] ty #[v,.slice (some ⟨g,of,none⟩) M.length c]).run Tryz.prog w=.ok v' w'/\Row w' el k v' (L++M)/\w.grownBy w' v.ownBlock/\(v'.ownBlock=v.ownBlock∨v'.ownBlock=some w.heap.size):=by
 obtain⟨i,hi,hz0,hz1,hz2⟩:=hE.info
 have hrow:=hR.row
 have hl:M.flatten.length=M.length*k:=flat_len hM
 have hadd:∀ j,(⟨g,of,none⟩:Addr).add j=⟨g,of+j,none⟩:=fun j=>Addr.add_mid g of j
 have hnews':∀ j u,M.flatten[j]?=some u->w.cell? ((⟨g,of,none⟩:Addr).add j)=some u:=fun j u hu=>by rw[hadd];exact hnews j u hu
 have hby:(L.length+M.length)*i.bytes<=140737488355328:=Nat.le_trans (Nat.mul_le_mul hn hz2) (by omega)
 obtain⟨v',w',hr,ho,hgr,_⟩:=run_append_own (P:=Tryz.prog) w 0 sl ty el i z k i.bytes hE.un hi hz0 hz1 rfl hE.zc hE.k0 v L.length L.flatten hrow ⟨g,of,none⟩ M.length c M.flatten hl hnews' h1 (by unfold maxLen;omega) hby (Nat.zero_le _)
 refine⟨v',w',hr,⟨fun d hd=>(List.mem_append.1 hd).elim (hR.ks d) (hM d),by rw[List.length_append,List.flatten_append];exact ho⟩,hgr,?_⟩
 have hl1:M.flatten.length=M.length*i.size:=by rw[hz1];exact hl
 rcases hrow.2 with⟨rfl,hn0⟩ |⟨b,cap,cur,rfl,hbg,hgg,hnc,hcm,hcs,htake⟩
 ·rcases Nat.eq_zero_or_pos M.length with h0 |hmp
  ·have hf:=run_firstCells_some (P:=Tryz.prog) w i.size 0 ⟨g,of,none⟩ 0 c [] (by simp) (fun j u hu=>by simp at hu)
   have hr2:(Builtin.append_ #[sl,sl] ty #[.slice none 0 0,.slice (some ⟨g,of,none⟩) 0 c]).run Tryz.prog w=.ok (.slice none 0 0) w:=by simp[Builtin.append_,run_underlying hE.un,sizeOf,typeInfo,hi,Builtin.lenOf,hf]
   rw[h0,hr2] at hr
   injection hr with e1 e2
   subst e1
   exact Or.inl rfl
  ·have hr2:=run_append_nil (P:=Tryz.prog) w sl ty el i z hE.un hi hz0 ⟨g,of,none⟩ M.length c M.flatten hl1 hnews' hmp (by omega) (by rw[hn0,Nat.zero_add] at hby;omega)
   rw[hr2] at hr
   injection hr with e1 e2
   subst e1
   exact Or.inr rfl
 ·by_cases hroom:L.length+M.length<=cap
  ·have hr2:=run_append_room (P:=Tryz.prog) w sl ty el i hE.un hi b L.length cap cur hgg ⟨g,of,none⟩ M.length c M.flatten hl1 hnews' h1 hroom (by rw[hz1,hcs,hl,← Nat.add_mul];exact Nat.mul_le_mul_right _ hroom)
   rw[hr2] at hr
   injection hr with e1 e2
   subst e1
   exact Or.inl rfl
  ·have holds:∀ j u,L.flatten[j]?=some u->w.cell? ((⟨b,0,none⟩:Addr).add j)=some u:=by
    intro j u hu
    rw[Addr.add_mid,Nat.zero_add,cell_of_row w b j cur el (0,0) hgg]
    rw[← htake,List.getElem?_take] at hu
    split at hu
    ·simpa using hu
    ·cases hu
   have hr2:=run_append_grow (P:=Tryz.prog) w sl ty el i z hE.un hi hz0 ⟨b,0,none⟩ L.length cap L.flatten (by rw[hz1,hrow.1]) holds ⟨g,of,none⟩ M.length c M.flatten hl1 hnews' (by omega) (by omega) (growslice_fits (by omega) (by omega))
   rw[hr2] at hr
   injection hr with e1 e2
   subst e1
   exact Or.inr rfl
structure App (w w':World) (t:TypeId) (k:Nat) (v v':Value) (L:List (List Value)):Prop where
 row:Row w' t k v' L
 grow:w.grownBy w' v.ownBlock
 own:v'.ownBlock=v.ownBlock∨v'.ownBlock=some w.heap.size
theorem App.fr {w w':World} {t:TypeId} {k:Nat} {v v':Value} {L:List (List Value)} (h:App w w' t k v v' L) {W W':Nat->Prop} (hW:∀ g,v.ownBlock=some g->W g) (hW':∀ j,W' j->W j∨v'.ownBlock=some j):Fr W W' w w' :=
 (Fr.grown h.grow hW).more fun j hj=>(hW' j hj).elim Or.inl fun e=>by
  rcases h.own with e2 |e2
  ·exact Or.inl (hW j (e2.symm.trans e))
  ·rw[e2] at e;cases e;exact Or.inr (Nat.le_refl _)
theorem App.bel {w w':World} {t:TypeId} {k B:Nat} {v v':Value} {L:List (List Value)} (h:App w w' t k v v' L) (hv:∀ g,v.ownBlock=some g->B<=g) (hB:B<=w.heap.size):Below B w w' :=
 (h.fr (W:=fun j=>v.ownBlock=some j) (W':=fun j=>v.ownBlock=some j) (fun g e=>e) (fun j hj=>Or.inl hj)).bel hv hB
section
variable {ops:Array Oper}{rest:List Oper}{o:Oper}{act:Act}{Q:Exit->Act->World->Prop}{sl el:TypeId}{k:Nat}{z:Value}
theorem wpList_append (hE:El sl el k z) {w:World} (hgd:o.guard=none) (s x:Operand) (ho:o.op=.call {callee:=.builtin .append,args:=#[s,x],argTypes:=#[sl,sl]}) {v:Value} {L M:List (List Value)} {g of c m:Nat}
  (hs:act.eval s=v) (hR:Row w el k v L) (hx:act.eval x=.slice (some ⟨g,of,none⟩) m c) (hm:M.length=m) (hM:∀ d∈M,d.length=k) (hnews:∀ j u,M.flatten[j]?=some u->w.cell? ⟨g,of+j,none⟩=some u) (h1:∀ u∈M.flatten,u.oneCell'=true) (hn:L.length+M.length<=100000)
  (K:∀ a' c' w',App w w' el k v (.slice a' (L.length+m) c') (L++M)->wpList Tryz.prog ops Q rest (act.put o.dst (.slice a' (L.length+m) c')) w'):wpList Tryz.prog ops Q (o ::rest) act w:=by
 refine wpList_plain hgd fun K' hK=>?_
 subst hm
 obtain⟨v',w',hr,h2,h3,h4⟩:=append_gen hE hR g of c hM hnews h1 hn o.type
 obtain⟨a',c',e,_⟩:=h2.sl
 unfold Oper.wp execOp
 simp only[ho,resolve,invoke,builtin,Sem.run_bind,Sem.run_pure,Result.andThen_ok,List.map_toArray,List.map_cons,List.map_nil,hs,hx,hr]
 rw[List.length_append] at e
 subst e
 exact hK _ _ (K _ _ w' ⟨h2,h3,h4⟩)
theorem wpList_push (hE:El sl el k z) {w:World} (hgd:o.guard=none) (s x:Operand) (ho:o.op=.call {callee:=.builtin .append,args:=#[s,x],argTypes:=#[sl,sl]}) {v:Value} {L:List (List Value)} {A:Array Value} {b c:Nat}
  (hs:act.eval s=v) (hR:Row w el k v L) (hx:act.eval x=.slice (some ⟨b,0,none⟩) 1 c) (hb:At w b el A) (hk:A.size=k) (h1:∀ u∈A.toList,u.oneCell'=true) (hn:L.length<=90000)
  (K:∀ a' c' w',App w w' el k v (.slice a' (L.length+1) c') (L++[A.toList])->wpList Tryz.prog ops Q rest (act.put o.dst (.slice a' (L.length+1) c')) w'):wpList Tryz.prog ops Q (o ::rest) act w :=
 wpList_append hE hgd s x ho (M:=[A.toList]) hs hR hx rfl (fun d hd=>by rw[List.mem_singleton] at hd;rw[hd,Array.length_toList,hk]) (fun j u hu=>hb.range j u (by simpa using hu)) (fun u hu=>h1 u (by simpa using hu)) (by simp;omega) K
theorem step_push (hE:El sl el k z) {K:Act->World->Prop} {E:Prop} {w:World} (hgd:o.guard=none) (s x:Operand) (ho:o.op=.call {callee:=.builtin .append,args:=#[s,x],argTypes:=#[sl,sl]}) {v:Value} {L:List (List Value)} {A:Array Value} {b c:Nat}
  (hs:act.eval s=v) (hR:Row w el k v L) (hx:act.eval x=.slice (some ⟨b,0,none⟩) 1 c) (hb:At w b el A) (hk:A.size=k) (h1:∀ u∈A.toList,u.oneCell'=true) (hn:L.length<=90000)
  (hK:∀ a' c' w',App w w' el k v (.slice a' (L.length+1) c') (L++[A.toList])->K (act.put o.dst (.slice a' (L.length+1) c')) w') :
  if Region.wanted o (yielded ops act.tmps)=true then Oper.wp Tryz.prog o act w K Q else E:=by
 have hw:Region.wanted o (yielded ops act.tmps)=true:=by simp[Region.wanted,hgd]
 rw[if_pos hw]
 obtain⟨v',w',hr,h2,h3,h4⟩:=append_gen hE hR b 0 c (M:=[A.toList]) (fun d hd=>by rw[List.mem_singleton] at hd;rw[hd,Array.length_toList,hk]) (fun j u hu=>hb.range j u (by simpa using hu)) (fun u hu=>h1 u (by simpa using hu)) (by simp;omega) o.type
 obtain⟨a',c',e,_⟩:=h2.sl
 unfold Oper.wp execOp
 rw[List.length_singleton] at hr
 simp only[ho,resolve,invoke,builtin,Sem.run_bind,Sem.run_pure,Result.andThen_ok,List.map_toArray,List.map_cons,List.map_nil,hs,hx,hr]
 rw[List.length_append,List.length_singleton] at e
 subst e
 exact hK _ _ w' ⟨h2,h3,h4⟩
end
end Go.Proofs.YtjlhohljkedbbaaGreat.Gm
