import Derived.Test.YtdchjncnjgelhaaGreatMab
import Derived.Laws.IdiomRangeMap
set_option linter.unusedVariables false
set_option linter.unusedSimpArgs false
set_option maxRecDepth 100000
namespace Go.Proofs.YtdchjncnjgelhaaGreat.Fd
open Go.RowKit Gm Go.Maps
theorem bC1 (p t:ByteArray) (w:World):(Instr.buildSlice 60 1 #[(0,.agg #[.string p,.string t])]).run Tryz.prog w=.ok (.slice (some ⟨w.heap.size,0,none⟩) 1 1) (w.alloc (.cells #[.string p,.string t] 69)):=by kernel_rfl
theorem fK_inv {ks:List (ByteArray × Hs)} {x:List UInt8} {v:Value} (h:fK ks (.string x)=some v):∃ p,lkK ks p.1.data.toList=some p/\x=p.1.data.toList/\v=.agg p.2.A:=by
 rw[fK_at] at h
 cases hk:lkK ks x with
 | none=>rw[hk] at h;cases h
 | some p =>
  rw[hk] at h;cases h
  have:=(lkK_mem hk).2
  subst this
  exact⟨p,hk,rfl,rfl⟩
theorem encS (k:ByteArray):encStr k.data.toList=.string k:=by
 unfold encStr
 congr 1
theorem putK_no {K:List CL} {c:CL} (h:isK K c.1=false):K.take (plc K c.1)++[c]++K.drop (plc K c.1)=putK K c:=by
 unfold putK
 rw[h]
 simp
theorem putK_yes {K:List CL} {c:CL} (h:isK K c.1=true):(K.take (plc K c.1)++K.drop (plc K c.1+1)).take (plc K c.1)++[c]++(K.take (plc K c.1)++K.drop (plc K c.1+1)).drop (plc K c.1)=putK K c:=by
 have hl:(K.take (plc K c.1)).length=plc K c.1:=by rw[List.length_take];have:=plc_le K c.1;omega
 unfold putK
 rw[h,if_pos rfl,List.take_left' hl,List.drop_left' hl]
section
variable {W:Nat->Prop}{w w':World}{fb bw:Nat}{v:Value}{K:List CL}{L:List Dv}{n t:Int}
structure CoO (w w':World) (fb bw:Nat) (v:Value) (K:List CL) (n:Int):Prop where
 ex:∃ v',At w' fb 141 #[v',.map (some bw),.int .i64 n]/\Row w' 69 2 v' (K.map encC)/\Fr (fun j=>j=fb∨v.ownBlock=some j) (fun j=>j=fb∨v'.ownBlock=some j) w w'
set_option maxHeartbeats 2000000 in
theorem commit_on {d:Dv} (h:FoI W w fb v bw K L n) (hlt:∀ j,W j->j<w.heap.size) (hw:wfT t) (hd:lkD L t=some d) (hn:K.length+d.g.ks.length<=1000) (hc:0<=n/\n<1000000) :
  Calls Tryz.prog 86 #[.pointer (some ⟨fb,0,none⟩),.int .i64 t] w fun e w'=>e=.returned (.tuple #[])/\CoO w w' fb bw v (cmsK K d.g.ks) (n+1):=by
 have H:Hid (FoI W w fb v bw K L n):=h
 have HL:Hid (∀ j,W j->j<w.heap.size):=hlt
 have HK:Hid (keyOf Tryz.prog 3 (.int .i64 t)=some (.int .i64 t)):=keyI hw
 have HD:Hid (lkD L t=some d):=hd
 have HDm:Hid (d∈L):=(lkD_mem hd).1
 have HN:Hid (K.length+d.g.ks.length<=1000):=hn
 have d1:w.cell? ⟨fb,1,none⟩=some (.map (some bw)):=h.is.c 1
 have d2:w.cell? ⟨fb,2,none⟩=some (.int .i64 n):=h.is.c 2
 have hwn:IntKind.i64.wrap (n+1)=n+1:=by rw[IntKind.wrap_i64];omega
 have h2:=stH
 have f2:w.frozen? ⟨fb,2,none⟩=false:=h.is.f 2
 obtain⟨w1,hw1⟩:∃ w1,w1=w.setCell ⟨fb,2,none⟩ (.int .i64 (n+1)):=⟨_,rfl⟩
 have I1:Hid (At w1 fb 141 #[v,.map (some bw),.int .i64 (n+1)]):=(by rw[hw1];have:=H.out.is.set 2 (.int .i64 (n+1));simp at this;exact this)
 have O1:Hid (∀ j,j≠fb->w1.heap[j]?=w.heap[j]?):=(fun j hj=>by rw[hw1];exact Below.heap_setCell w _ _ j hj)
 have F1:Hid (Fr (fun j=>j=fb∨v.ownBlock=some j) (fun j=>j=fb∨v.ownBlock=some j) w w1):=(by rw[hw1];exact(Fr.refl _ w).set (Or.inl rfl) 2 _)
 have hl6:(Instr.lookup 139 (.map (some bw)) (.int .i64 t) false).run Tryz.prog w1=.ok (.map (some d.b)) w1:=(by have:=(H.out.wa.keep (w':=w1) (O1.out bw (H.out.wa.ne H.out.is))).look1 KI uW (zWv _) HK.out;rw[fW_at,HD.out] at this;exact this)
 have M1:Hid (Mp w1 9 d.b d.g.ks.length (fK d.g.ks)):=(H.out.ks d HDm.out).keep (O1.out d.b ((H.out.ks d HDm.out).ne H.out.is))
 clear h hlt hw hd hn
 go_enter Tryz.func86,Tryz.ntmps86
 go_wp2_with fail
 rw[← hw1]
 rw[hl6]
 simp only[Result.andThen]
 rw[Oper.upon_value]
 go_wp2_with (at_range;refine wpList_range_mp _ rfl _ rfl KS uK rfl M1.out ?_;intro w4 rb hr R4 B4)
 have M4:Hid (CmM w w4 fb bw d.b rb d.g.ks.length v v K (fK d.g.ks) (fun l=>(fK d.g.ks l).isSome) d.g.ks.length (n+1)):=(by
  have hrow:=(H.out.row.keep (w':=w1) (fun g e=>O1.out g (fun e2=>H.out.row.ne (g:=g) H.out.is (by decide) (by rw[← e2];exact e))))
  refine⟨I1.out.bel B4,hrow.bel B4,R4,(F1.out.below B4).more (fun j hj=>?_)⟩
  rcases hj with e |e |e
  ·exact Or.inl (Or.inl e)
  ·exact Or.inl (Or.inr e)
  ·exact Or.inr (by rw[e,hr];exact F1.out.size))
 have P4:Hid (CmP K K d.g.ks (fun l=>(fK d.g.ks l).isSome) d.g.ks.length (K.length+d.g.ks.length)):=CmP.start H.out.up (Nat.le_refl _)
 clear R4 B4 hr hl6 d1 d2 f2 I1 O1 F1 M1 hwn hw1
 go_frame
 go_loopw [6,7] (fun _ _ wr=>∃ (left:Lit->Bool) (cnt:Nat) (v1:Value) (K1:List CL),CmM w wr fb bw d.b rb d.g.ks.length v v1 K1 (fK d.g.ks) left cnt (n+1)/\CmP K K1 d.g.ks left cnt (K.length+d.g.ks.length)) (fun _ _ wr=>wr.rangeLeft d.b rb)
 case atStart=>exact⟨_,_,_,_,M4.out,P4.out⟩
 case round =>
  obtain⟨left,cnt,v1,K1,hM,hP⟩:=hrel
  rename World=>wo
  have HM:Hid (CmM w wo fb bw d.b rb d.g.ks.length v v1 K1 (fK d.g.ks) left cnt (n+1)):=hM
  have HP:Hid (CmP K K1 d.g.ks left cnt (K.length+d.g.ks.length)):=hP
  clear hM hP M4 P4
  go_wp2_with (first
   | (at_next;refine wpList_next_mp encStr Lit.string _ rfl _ rfl KS (fun key l=>invS) rfl HM.out.r ?_ ?_)
   | go_in)
  ·intro hc0 hl0
   go_wp2
   go_end0
   have e9:=HP.out.done hl0 (H.out.kn d HDm.out) H.out.up
   have n2:=HM.out.rf.1
   refine⟨rfl,v1,HM.out.is,by rw[← e9];exact HM.out.row,HM.out.fr.more fun j hj=>?_⟩
   rcases hj with e |e
   ·exact Or.inl (Or.inl e)
   ·rcases HM.out.fr.sub j (Or.inr (Or.inl e)) with h1 |h1
    ·exact Or.inl h1
    ·exact Or.inr h1
  ·intro x vx w5 cnt2 hk hl hv hr5 hlt ho hf hen
   obtain⟨p,hp,rfl,rfl⟩:=fK_inv hv
   obtain⟨kb,xv,xi⟩:=p
   dsimp only at hp hk hl hv hr5 hlt hen ⊢
   rw[encS] at hen ⊢
   obtain⟨a,c,ea,_⟩:=HM.out.row.sl
   rw[List.length_map] at ea
   subst ea
   have M5:Hid (CmM w w5 fb bw d.b rb d.g.ks.length v (.slice a K1.length c) K1 (fK d.g.ks) (fun z=>left z&&!z.sameKey (.string kb.data.toList)) cnt2 (n+1)):=HM.out.next hr5 ho hf
   have P5:Hid (CmP K (comK K1 kb ⟨xv,xi⟩) d.g.ks (fun z=>left z&&!z.sameKey (.string kb.data.toList)) cnt2 (K.length+d.g.ks.length)):=HP.out.step (p:=(kb,⟨xv,xi⟩)) hp hlt
   have HC:Hid (cnt2<cnt/\wo.rangeLeft d.b rb=cnt):=⟨hlt,HM.out.r.left_eq⟩
   have HU:Hid (Ris K1/\K1.length<=1000):=⟨HP.out.up,by have:=HP.out.le;have:=HN.out;omega⟩
   clear hr5 ho hf hv hl hlt hk hp
   cases hB:isK K1 kb with
   | true =>
    cases xi with
    | true =>
     have HE:Hid (comK K1 kb ⟨xv,true⟩=((K1.take (plc K1 kb)++K1.drop (plc K1 kb+1)).take (plc K1 kb)++[(kb,xv)]++(K1.take (plc K1 kb)++K1.drop (plc K1 kb+1)).drop (plc K1 kb))):=(by unfold comK;rw[if_pos rfl]:comK K1 kb ⟨xv,true⟩=putK K1 (kb,xv)).trans (putK_yes (c:=(kb,xv)) hB).symm
     have CF:Hid (∀ wx,CmM w wx fb bw d.b rb d.g.ks.length v (.slice a K1.length c) K1 (fK d.g.ks) (fun z=>left z&&!z.sameKey (.string kb.data.toList)) cnt2 (n+1)->Calls Tryz.prog 89 #[.pointer (some ⟨fb,0,none⟩),.string kb] wx fun e w'=>e=.returned (.tuple #[.int .i64 (plc K1 kb:Nat),.bool true])/\Below wx.heap.size wx w'):=fun wx hx=>by have:=find_any HU.out.1 HU.out.2 hx.is hx.row kb;rw[hB] at this;exact this
     have HPl:Hid (plc K1 kb<=K1.length):=plc_le K1 kb
     have HPt:Hid (plc K1 kb<K1.length):=(isK_at hB).1
     have CD:Hid (∀ wx,Row wx 69 2 (.slice a K1.length c) (K1.map encC)->Calls Tryz.prog 115 #[.slice a K1.length c,.int .i64 (plc K1 kb:Int),.int .i64 ((plc K1 kb:Int)+1)] wx fun e w'=>e=.returned (.slice a (K1.length-1) c)/\RwO wx w' (.slice a K1.length c) (.slice a (K1.length-1) c) (K1.take (plc K1 kb)++K1.drop (plc K1 kb+1))):=fun wx hx=>Delete_row hx HPt.out HU.out.2
     have HLd:Hid ((K1.take (plc K1 kb)++K1.drop (plc K1 kb+1)).length=K1.length-1):=(by rw[List.length_append,List.length_take,List.length_drop];have:=HPt.out;omega:(K1.take (plc K1 kb)++K1.drop (plc K1 kb+1)).length=K1.length-1)
     have hwp:IntKind.i64.wrap ((plc K1 kb:Int)+1)=(plc K1 kb:Int)+1:=by rw[IntKind.wrap_i64];have:=HPt.out;have:=HU.out.2;omega
     obtain⟨Kd,hKd⟩:∃ Kd,Kd=K1.take (plc K1 kb)++K1.drop (plc K1 kb+1):=⟨_,rfl⟩
     rw[← hKd] at CD HLd HE
     have CI:Hid (∀ wx vb,Row wx 69 2 (.slice a (K1.length-1) c) (Kd.map encC)->At wx vb 69 #[.string kb,.string xv]->(Value.ownBlock (.slice a (K1.length-1) c))≠some vb->Calls Tryz.prog 116 #[.slice a (K1.length-1) c,.int .i64 (plc K1 kb:Int),.slice (some ⟨vb,0,none⟩) 1 1] wx fun e w'=>∃ v',e=.returned v'/\RwO wx w' (.slice a (K1.length-1) c) v' (Kd.take (plc K1 kb)++[(kb,xv)]++Kd.drop (plc K1 kb))):=fun wx vb hx hb hne=>Insert_row hx (by rw[HLd.out];have:=HPt.out;omega) (by rw[HLd.out];have:=HU.out.2;omega) hb hne
     obtain⟨Kn,hKn⟩:∃ Kn,Kn=Kd.take (plc K1 kb)++[(kb,xv)]++Kd.drop (plc K1 kb):=⟨_,rfl⟩
     rw[← hKn] at CI HE
     clear hB hKd hKn
     generalize plc K1 kb=pl at *
     go_wp2_with first
      | (refine wpList_new_at (A:=zH.A) _ zKv rfl rfl ?_;intro w6 b6 N6)
      | (refine wpList_put_at (A:=zH.A) (A':=Hs.A ⟨xv,true⟩) h2 _ rfl _ _ rfl rfl rfl N6.is rfl rfl (oneH _) ?_;intro w7 P7;have M7:Hid (CmM w w7 fb bw d.b rb d.g.ks.length v (.slice a K1.length c) K1 (fK d.g.ks) (fun z=>left z&&!z.sameKey (.string kb.data.toList)) cnt2 (n+1)):=M5.out.below (np_bel N6 P7))
      | (go_at_call 89;refine(CF.out _ M7.out).mono ?_;rintro e w8 ⟨rfl,b2⟩;have M8:Hid (CmM w w8 fb bw d.b rb d.g.ks.length v (.slice a K1.length c) K1 (fK d.g.ks) (fun z=>left z&&!z.sameKey (.string kb.data.toList)) cnt2 (n+1)):=M7.out.below b2;have A8:Hid (At w8 b6 136 (Hs.A ⟨xv,true⟩)):=P7.is.bel b2;have k8:w8.cell? ⟨fb,0,none⟩=some (.slice a K1.length c):=M8.out.is.c 0;have f8:w8.frozen? ⟨fb,0,none⟩=false:=M8.out.is.f 0;have x0:w8.cell? ⟨b6,0,none⟩=some (.string xv):=A8.out.c 0;have x1:w8.cell? ⟨b6,1,none⟩=some (.bool true):=A8.out.c 1)
      | (go_at_call 115;refine(CD.out _ M8.out.row).mono ?_;rintro e w9 ⟨rfl,o9⟩;have M10:Hid (CmM w (w9.setCell ⟨fb,0,none⟩ (.slice a (K1.length-1) c)) fb bw d.b rb d.g.ks.length v (.slice a (K1.length-1) c) Kd (fK d.g.ks) (fun z=>left z&&!z.sameKey (.string kb.data.toList)) cnt2 (n+1)):=M8.out.kept o9 rfl;have I9:=M8.out.is.keep (w':=w9) (o9.gr.block fb M8.out.is.lt (fun e=>M8.out.rf.2.2.2.2.1 e.symm));have A9:=A8.out.keep (w':=w9) (o9.gr.block b6 A8.out.lt (fun e=>M8.out.row.ne (g:=b6) A8.out (by decide) e.symm));have k9:w9.cell? ⟨fb,0,none⟩=some (.slice a K1.length c):=I9.c 0;have f9:w9.frozen? ⟨fb,0,none⟩=false:=I9.f 0;have A10:Hid (At (w9.setCell ⟨fb,0,none⟩ (.slice a (K1.length-1) c)) b6 136 (Hs.A ⟨xv,true⟩)):=A9.keep (Below.heap_setCell w9 _ _ b6 (fun e=>absurd (I9.tag (e ▸ A9.blk)) (by decide)));have y0:(w9.setCell ⟨fb,0,none⟩ (.slice a (K1.length-1) c)).cell? ⟨b6,0,none⟩=some (.string xv):=A10.out.c 0;have y1:(w9.setCell ⟨fb,0,none⟩ (.slice a (K1.length-1) c)).cell? ⟨b6,1,none⟩=some (.bool true):=A10.out.c 1;have k10:(w9.setCell ⟨fb,0,none⟩ (.slice a (K1.length-1) c)).cell? ⟨fb,0,none⟩=some (.slice a (K1.length-1) c):=M10.out.is.c 0;have f10:(w9.setCell ⟨fb,0,none⟩ (.slice a (K1.length-1) c)).frozen? ⟨fb,0,none⟩=false:=M10.out.is.f 0;clear k8 f8 x0 x1 I9 o9 A9)
     have MB0:=M10
     generalize (w9.setCell ⟨fb,0,none⟩ (.slice a (K1.length-1) c))=wB at *
     have MB:Hid (CmM w wB fb bw d.b rb d.g.ks.length v (.slice a (K1.length-1) c) Kd (fK d.g.ks) (fun z=>left z&&!z.sameKey (.string kb.data.toList)) cnt2 (n+1)):=MB0
     have AB:Hid (At wB b6 136 (Hs.A ⟨xv,true⟩)):=A10
     have BD:Hid (Below wB.heap.size wB (wB.alloc (.cells #[.string kb,.string xv] 69)).drew):=bdr (bl1 _) 1
     have kD:wB.drew.cell? ⟨fb,0,none⟩=some (.slice a (K1.length-1) c):=MB.out.is.c 0
     have xD:wB.drew.cell? ⟨b6,0,none⟩=some (.string xv):=AB.out.c 0
     have kA:(wB.alloc (.cells #[.string kb,.string xv] 69)).drew.cell? ⟨fb,0,none⟩=some (.slice a (K1.length-1) c):=(MB.out.is.bel BD.out).c 0
     have xA:(wB.alloc (.cells #[.string kb,.string xv] 69)).drew.cell? ⟨b6,0,none⟩=some (.string xv):=(AB.out.bel BD.out).c 0
     clear MB0 M7 A8 M8 A10 M10 k9 f9 y0 y1 k10 f10
     have CI2:=CI.out _ wB.heap.size (MB.out.row.bel BD.out) ((At.new wB #[.string kb,.string xv] 69).keep rfl) (fun e=>by have:=MB.out.row.lt e;omega)
     go_region_with (go_at_call 116;refine CI2.mono ?_;rintro e w12 ⟨v2,rfl,o12⟩;have M11:Hid (CmM w (wB.alloc (.cells #[.string kb,.string xv] 69)).drew fb bw d.b rb d.g.ks.length v (.slice a (K1.length-1) c) Kd (fK d.g.ks) (fun z=>left z&&!z.sameKey (.string kb.data.toList)) cnt2 (n+1)):=MB.out.below BD.out;have I12:=M11.out.is.keep (w':=w12) (o12.gr.block fb M11.out.is.lt (fun e=>M11.out.rf.2.2.2.2.1 e.symm));have k12:w12.cell? ⟨fb,0,none⟩=some (.slice a (K1.length-1) c):=I12.c 0;have f12:w12.frozen? ⟨fb,0,none⟩=false:=I12.f 0;obtain⟨a2,c2,e2,_⟩:=o12.row.sl;rw[List.length_map] at e2;subst e2;have M13:Hid (CmM w (w12.setCell ⟨fb,0,none⟩ (.slice a2 Kn.length c2)) fb bw d.b rb d.g.ks.length v (.slice a2 Kn.length c2) Kn (fK d.g.ks) (fun z=>left z&&!z.sameKey (.string kb.data.toList)) cnt2 (n+1)):=M11.out.kept o12 rfl)
     all_goals
      go_wp2
      go_roundw
      case rel=>exact⟨_,cnt2,_,Kn,M13.out,by rw[← HE.out];exact P5.out⟩
      case measure=>rw[M13.out.r.left_eq,HC.out.2];exact HC.out.1
    | false =>
     have HE:Hid (comK K1 kb ⟨xv,false⟩=(K1.take (plc K1 kb)++K1.drop (plc K1 kb+1))):=(by unfold comK delK;rw[if_neg (by simp),if_pos hB]:comK K1 kb ⟨xv,false⟩=K1.take (plc K1 kb)++K1.drop (plc K1 kb+1))
     have CF:Hid (∀ wx,CmM w wx fb bw d.b rb d.g.ks.length v (.slice a K1.length c) K1 (fK d.g.ks) (fun z=>left z&&!z.sameKey (.string kb.data.toList)) cnt2 (n+1)->Calls Tryz.prog 89 #[.pointer (some ⟨fb,0,none⟩),.string kb] wx fun e w'=>e=.returned (.tuple #[.int .i64 (plc K1 kb:Nat),.bool true])/\Below wx.heap.size wx w'):=fun wx hx=>by have:=find_any HU.out.1 HU.out.2 hx.is hx.row kb;rw[hB] at this;exact this
     have HPl:Hid (plc K1 kb<=K1.length):=plc_le K1 kb
     have HPt:Hid (plc K1 kb<K1.length):=(isK_at hB).1
     have CD:Hid (∀ wx,Row wx 69 2 (.slice a K1.length c) (K1.map encC)->Calls Tryz.prog 115 #[.slice a K1.length c,.int .i64 (plc K1 kb:Int),.int .i64 ((plc K1 kb:Int)+1)] wx fun e w'=>e=.returned (.slice a (K1.length-1) c)/\RwO wx w' (.slice a K1.length c) (.slice a (K1.length-1) c) (K1.take (plc K1 kb)++K1.drop (plc K1 kb+1))):=fun wx hx=>Delete_row hx HPt.out HU.out.2
     have HLd:Hid ((K1.take (plc K1 kb)++K1.drop (plc K1 kb+1)).length=K1.length-1):=(by rw[List.length_append,List.length_take,List.length_drop];have:=HPt.out;omega:(K1.take (plc K1 kb)++K1.drop (plc K1 kb+1)).length=K1.length-1)
     have hwp:IntKind.i64.wrap ((plc K1 kb:Int)+1)=(plc K1 kb:Int)+1:=by rw[IntKind.wrap_i64];have:=HPt.out;have:=HU.out.2;omega
     obtain⟨Kd,hKd⟩:∃ Kd,Kd=K1.take (plc K1 kb)++K1.drop (plc K1 kb+1):=⟨_,rfl⟩
     rw[← hKd] at CD HLd HE
     clear hB hKd
     generalize plc K1 kb=pl at *
     go_wp2_with first
      | (refine wpList_new_at (A:=zH.A) _ zKv rfl rfl ?_;intro w6 b6 N6)
      | (refine wpList_put_at (A:=zH.A) (A':=Hs.A ⟨xv,false⟩) h2 _ rfl _ _ rfl rfl rfl N6.is rfl rfl (oneH _) ?_;intro w7 P7;have M7:Hid (CmM w w7 fb bw d.b rb d.g.ks.length v (.slice a K1.length c) K1 (fK d.g.ks) (fun z=>left z&&!z.sameKey (.string kb.data.toList)) cnt2 (n+1)):=M5.out.below (np_bel N6 P7))
      | (go_at_call 89;refine(CF.out _ M7.out).mono ?_;rintro e w8 ⟨rfl,b2⟩;have M8:Hid (CmM w w8 fb bw d.b rb d.g.ks.length v (.slice a K1.length c) K1 (fK d.g.ks) (fun z=>left z&&!z.sameKey (.string kb.data.toList)) cnt2 (n+1)):=M7.out.below b2;have A8:Hid (At w8 b6 136 (Hs.A ⟨xv,false⟩)):=P7.is.bel b2;have k8:w8.cell? ⟨fb,0,none⟩=some (.slice a K1.length c):=M8.out.is.c 0;have f8:w8.frozen? ⟨fb,0,none⟩=false:=M8.out.is.f 0;have x0:w8.cell? ⟨b6,0,none⟩=some (.string xv):=A8.out.c 0;have x1:w8.cell? ⟨b6,1,none⟩=some (.bool false):=A8.out.c 1)
      | (go_at_call 115;refine(CD.out _ M8.out.row).mono ?_;rintro e w9 ⟨rfl,o9⟩;have M10:Hid (CmM w (w9.setCell ⟨fb,0,none⟩ (.slice a (K1.length-1) c)) fb bw d.b rb d.g.ks.length v (.slice a (K1.length-1) c) Kd (fK d.g.ks) (fun z=>left z&&!z.sameKey (.string kb.data.toList)) cnt2 (n+1)):=M8.out.kept o9 rfl;have I9:=M8.out.is.keep (w':=w9) (o9.gr.block fb M8.out.is.lt (fun e=>M8.out.rf.2.2.2.2.1 e.symm));have A9:=A8.out.keep (w':=w9) (o9.gr.block b6 A8.out.lt (fun e=>M8.out.row.ne (g:=b6) A8.out (by decide) e.symm));have k9:w9.cell? ⟨fb,0,none⟩=some (.slice a K1.length c):=I9.c 0;have f9:w9.frozen? ⟨fb,0,none⟩=false:=I9.f 0;have A10:Hid (At (w9.setCell ⟨fb,0,none⟩ (.slice a (K1.length-1) c)) b6 136 (Hs.A ⟨xv,false⟩)):=A9.keep (Below.heap_setCell w9 _ _ b6 (fun e=>absurd (I9.tag (e ▸ A9.blk)) (by decide)));have y0:(w9.setCell ⟨fb,0,none⟩ (.slice a (K1.length-1) c)).cell? ⟨b6,0,none⟩=some (.string xv):=A10.out.c 0;have y1:(w9.setCell ⟨fb,0,none⟩ (.slice a (K1.length-1) c)).cell? ⟨b6,1,none⟩=some (.bool false):=A10.out.c 1;have k10:(w9.setCell ⟨fb,0,none⟩ (.slice a (K1.length-1) c)).cell? ⟨fb,0,none⟩=some (.slice a (K1.length-1) c):=M10.out.is.c 0;have f10:(w9.setCell ⟨fb,0,none⟩ (.slice a (K1.length-1) c)).frozen? ⟨fb,0,none⟩=false:=M10.out.is.f 0;clear k8 f8 x0 x1 I9 o9 A9)
     go_roundw
     case rel=>exact⟨_,cnt2,_,Kd,M10.out,by rw[← HE.out];exact P5.out⟩
     case measure=>rw[M10.out.r.left_eq,HC.out.2];exact HC.out.1
   | false =>
    cases xi with
    | true =>
     have HE:Hid (comK K1 kb ⟨xv,true⟩=(K1.take (plc K1 kb)++[(kb,xv)]++K1.drop (plc K1 kb))):=(by unfold comK;rw[if_pos rfl]:comK K1 kb ⟨xv,true⟩=putK K1 (kb,xv)).trans (putK_no (c:=(kb,xv)) hB).symm
     have CF:Hid (∀ wx,CmM w wx fb bw d.b rb d.g.ks.length v (.slice a K1.length c) K1 (fK d.g.ks) (fun z=>left z&&!z.sameKey (.string kb.data.toList)) cnt2 (n+1)->Calls Tryz.prog 89 #[.pointer (some ⟨fb,0,none⟩),.string kb] wx fun e w'=>e=.returned (.tuple #[.int .i64 (plc K1 kb:Nat),.bool false])/\Below wx.heap.size wx w'):=fun wx hx=>by have:=find_any HU.out.1 HU.out.2 hx.is hx.row kb;rw[hB] at this;exact this
     have HPl:Hid (plc K1 kb<=K1.length):=plc_le K1 kb
     have CI:Hid (∀ wx vb,Row wx 69 2 (.slice a K1.length c) (K1.map encC)->At wx vb 69 #[.string kb,.string xv]->(Value.ownBlock (.slice a K1.length c))≠some vb->Calls Tryz.prog 116 #[.slice a K1.length c,.int .i64 (plc K1 kb:Int),.slice (some ⟨vb,0,none⟩) 1 1] wx fun e w'=>∃ v',e=.returned v'/\RwO wx w' (.slice a K1.length c) v' (K1.take (plc K1 kb)++[(kb,xv)]++K1.drop (plc K1 kb))):=fun wx vb hx hb hne=>Insert_row hx HPl.out HU.out.2 hb hne
     obtain⟨Kn,hKn⟩:∃ Kn,Kn=K1.take (plc K1 kb)++[(kb,xv)]++K1.drop (plc K1 kb):=⟨_,rfl⟩
     rw[← hKn] at CI HE
     clear hB hKn
     generalize plc K1 kb=pl at *
     go_wp2_with first
      | (refine wpList_new_at (A:=zH.A) _ zKv rfl rfl ?_;intro w6 b6 N6)
      | (refine wpList_put_at (A:=zH.A) (A':=Hs.A ⟨xv,true⟩) h2 _ rfl _ _ rfl rfl rfl N6.is rfl rfl (oneH _) ?_;intro w7 P7;have M7:Hid (CmM w w7 fb bw d.b rb d.g.ks.length v (.slice a K1.length c) K1 (fK d.g.ks) (fun z=>left z&&!z.sameKey (.string kb.data.toList)) cnt2 (n+1)):=M5.out.below (np_bel N6 P7))
      | (go_at_call 89;refine(CF.out _ M7.out).mono ?_;rintro e w8 ⟨rfl,b2⟩;have M8:Hid (CmM w w8 fb bw d.b rb d.g.ks.length v (.slice a K1.length c) K1 (fK d.g.ks) (fun z=>left z&&!z.sameKey (.string kb.data.toList)) cnt2 (n+1)):=M7.out.below b2;have A8:Hid (At w8 b6 136 (Hs.A ⟨xv,true⟩)):=P7.is.bel b2;have k8:w8.cell? ⟨fb,0,none⟩=some (.slice a K1.length c):=M8.out.is.c 0;have f8:w8.frozen? ⟨fb,0,none⟩=false:=M8.out.is.f 0;have x0:w8.cell? ⟨b6,0,none⟩=some (.string xv):=A8.out.c 0;have x1:w8.cell? ⟨b6,1,none⟩=some (.bool true):=A8.out.c 1)
     have MB0:=M8
     generalize w8=wB at *
     have MB:Hid (CmM w wB fb bw d.b rb d.g.ks.length v (.slice a K1.length c) K1 (fK d.g.ks) (fun z=>left z&&!z.sameKey (.string kb.data.toList)) cnt2 (n+1)):=MB0
     have AB:Hid (At wB b6 136 (Hs.A ⟨xv,true⟩)):=A8
     have BD:Hid (Below wB.heap.size wB (wB.alloc (.cells #[.string kb,.string xv] 69)).drew):=bdr (bl1 _) 1
     have kD:wB.drew.cell? ⟨fb,0,none⟩=some (.slice a K1.length c):=MB.out.is.c 0
     have xD:wB.drew.cell? ⟨b6,0,none⟩=some (.string xv):=AB.out.c 0
     have kA:(wB.alloc (.cells #[.string kb,.string xv] 69)).drew.cell? ⟨fb,0,none⟩=some (.slice a K1.length c):=(MB.out.is.bel BD.out).c 0
     have xA:(wB.alloc (.cells #[.string kb,.string xv] 69)).drew.cell? ⟨b6,0,none⟩=some (.string xv):=(AB.out.bel BD.out).c 0
     clear MB0 M7 A8 M8 k8 f8 x0 x1
     have CI2:=CI.out _ wB.heap.size (MB.out.row.bel BD.out) ((At.new wB #[.string kb,.string xv] 69).keep rfl) (fun e=>by have:=MB.out.row.lt e;omega)
     go_region_with (go_at_call 116;refine CI2.mono ?_;rintro e w12 ⟨v2,rfl,o12⟩;have M11:Hid (CmM w (wB.alloc (.cells #[.string kb,.string xv] 69)).drew fb bw d.b rb d.g.ks.length v (.slice a K1.length c) K1 (fK d.g.ks) (fun z=>left z&&!z.sameKey (.string kb.data.toList)) cnt2 (n+1)):=MB.out.below BD.out;have I12:=M11.out.is.keep (w':=w12) (o12.gr.block fb M11.out.is.lt (fun e=>M11.out.rf.2.2.2.2.1 e.symm));have k12:w12.cell? ⟨fb,0,none⟩=some (.slice a K1.length c):=I12.c 0;have f12:w12.frozen? ⟨fb,0,none⟩=false:=I12.f 0;obtain⟨a2,c2,e2,_⟩:=o12.row.sl;rw[List.length_map] at e2;subst e2;have M13:Hid (CmM w (w12.setCell ⟨fb,0,none⟩ (.slice a2 Kn.length c2)) fb bw d.b rb d.g.ks.length v (.slice a2 Kn.length c2) Kn (fK d.g.ks) (fun z=>left z&&!z.sameKey (.string kb.data.toList)) cnt2 (n+1)):=M11.out.kept o12 rfl)
     all_goals
      go_wp2
      go_roundw
      case rel=>exact⟨_,cnt2,_,Kn,M13.out,by rw[← HE.out];exact P5.out⟩
      case measure=>rw[M13.out.r.left_eq,HC.out.2];exact HC.out.1
    | false =>
     have HE:Hid (comK K1 kb ⟨xv,false⟩=K1):=(by unfold comK delK;rw[if_neg (by simp),if_neg (by rw[hB];simp)]:comK K1 kb ⟨xv,false⟩=K1)
     have CF:Hid (∀ wx,CmM w wx fb bw d.b rb d.g.ks.length v (.slice a K1.length c) K1 (fK d.g.ks) (fun z=>left z&&!z.sameKey (.string kb.data.toList)) cnt2 (n+1)->Calls Tryz.prog 89 #[.pointer (some ⟨fb,0,none⟩),.string kb] wx fun e w'=>e=.returned (.tuple #[.int .i64 (plc K1 kb:Nat),.bool false])/\Below wx.heap.size wx w'):=fun wx hx=>by have:=find_any HU.out.1 HU.out.2 hx.is hx.row kb;rw[hB] at this;exact this
     have HPl:Hid (plc K1 kb<=K1.length):=plc_le K1 kb
     clear hB
     generalize plc K1 kb=pl at *
     go_wp2_with first
      | (refine wpList_new_at (A:=zH.A) _ zKv rfl rfl ?_;intro w6 b6 N6)
      | (refine wpList_put_at (A:=zH.A) (A':=Hs.A ⟨xv,false⟩) h2 _ rfl _ _ rfl rfl rfl N6.is rfl rfl (oneH _) ?_;intro w7 P7;have M7:Hid (CmM w w7 fb bw d.b rb d.g.ks.length v (.slice a K1.length c) K1 (fK d.g.ks) (fun z=>left z&&!z.sameKey (.string kb.data.toList)) cnt2 (n+1)):=M5.out.below (np_bel N6 P7))
      | (go_at_call 89;refine(CF.out _ M7.out).mono ?_;rintro e w8 ⟨rfl,b2⟩;have M8:Hid (CmM w w8 fb bw d.b rb d.g.ks.length v (.slice a K1.length c) K1 (fK d.g.ks) (fun z=>left z&&!z.sameKey (.string kb.data.toList)) cnt2 (n+1)):=M7.out.below b2;have A8:Hid (At w8 b6 136 (Hs.A ⟨xv,false⟩)):=P7.is.bel b2;have k8:w8.cell? ⟨fb,0,none⟩=some (.slice a K1.length c):=M8.out.is.c 0;have f8:w8.frozen? ⟨fb,0,none⟩=false:=M8.out.is.f 0;have x0:w8.cell? ⟨b6,0,none⟩=some (.string xv):=A8.out.c 0;have x1:w8.cell? ⟨b6,1,none⟩=some (.bool false):=A8.out.c 1)
     go_roundw
     case rel=>exact⟨_,cnt2,_,K1,M8.out,by rw[← HE.out];exact P5.out⟩
     case measure=>rw[M8.out.r.left_eq,HC.out.2];exact HC.out.1
end
def ksG (G:List Gt) (t:Int):List (ByteArray × Hs):=((lkG G t).map (·.ks)).getD []
section
variable {W:Nat->Prop}{w w':World}{fb bw:Nat}{v:Value}{K:List CL}{L:List Dv}{G:List Gt}{n t:Int}{r:Rc}{I T:Value}
theorem commit_none (h:FoI W w fb v bw K L n) (hw:wfT t) (hd:lkD L t=none) (hc:0<=n/\n<1000000) :
  Calls Tryz.prog 86 #[.pointer (some ⟨fb,0,none⟩),.int .i64 t] w fun e w'=>e=.returned (.tuple #[])/\CoO w w' fb bw v K (n+1):=by
 have H:Hid (FoI W w fb v bw K L n):=h
 have HK:Hid (keyOf Tryz.prog 3 (.int .i64 t)=some (.int .i64 t)):=keyI hw
 have HD:Hid (lkD L t=none):=hd
 have d1:w.cell? ⟨fb,1,none⟩=some (.map (some bw)):=h.is.c 1
 have d2:w.cell? ⟨fb,2,none⟩=some (.int .i64 n):=h.is.c 2
 have hwn:IntKind.i64.wrap (n+1)=n+1:=by rw[IntKind.wrap_i64];omega
 have f2:w.frozen? ⟨fb,2,none⟩=false:=h.is.f 2
 obtain⟨w1,hw1⟩:∃ w1,w1=w.setCell ⟨fb,2,none⟩ (.int .i64 (n+1)):=⟨_,rfl⟩
 have I1:Hid (At w1 fb 141 #[v,.map (some bw),.int .i64 (n+1)]):=(by rw[hw1];have:=H.out.is.set 2 (.int .i64 (n+1));simp at this;exact this)
 have O1:Hid (∀ j,j≠fb->w1.heap[j]?=w.heap[j]?):=(fun j hj=>by rw[hw1];exact Below.heap_setCell w _ _ j hj)
 have F1:Hid (Fr (fun j=>j=fb∨v.ownBlock=some j) (fun j=>j=fb∨v.ownBlock=some j) w w1):=(by rw[hw1];exact(Fr.refl _ w).set (Or.inl rfl) 2 _)
 have hl6:(Instr.lookup 139 (.map (some bw)) (.int .i64 t) false).run Tryz.prog w1=.ok (.map none) w1:=(by have:=(H.out.wa.keep (w':=w1) (O1.out bw (H.out.wa.ne H.out.is))).look1 KI uW (zWv _) HK.out;rw[fW_at,HD.out] at this;exact this)
 have hrg:=run_range_nilMap (P:=Tryz.prog) w1 138 9 136 uK
 have hnx:∀ ty,(Instr.next (.pointer (some ⟨w1.heap.size,0,none⟩)) false ty).run Tryz.prog (w1.alloc (.mapIter none 0 #[] 0))=_:=fun ty=>run_next_nilMap w1 ty 0 0 #[]
 clear h hw hd
 go_enter Tryz.func86,Tryz.ntmps86
 go_wp2_with fail
 rw[← hw1]
 clear hw1 d1 d2 f2
 rw[hl6]
 (try simp only[Result.andThen])
 rw[Oper.upon_value]
 go_wp2
 refine wp_loop_rounds 1 ?_
 rw[rounds_succ]
 go_wp2
 go_end0
 have hrow:=(H.out.row.keep (w':=w1) (fun g e=>O1.out g (fun e2=>H.out.row.ne (g:=g) H.out.is (by decide) (by rw[← e2];exact e))))
 exact⟨rfl,v,I1.out.bel (bl1 _),hrow.bel (bl1 _),F1.out.below (bl1 _)⟩
theorem CoO.fo {K2:List CL} (c:CoO w w' fb bw v K2 (n+1)) (h:FoI W w fb v bw K L n) (hlt:∀ j,W j->j<w.heap.size) (hr:Ris K2):FoO W w w' fb K2 (L.map (·.g)) (n+1):=by
 obtain⟨v',c1,c2,c3⟩:=c.ex
 have hsub:∀ j,(j=fb∨v.ownBlock=some j)->W j:=fun j hj=>hj.elim (fun e=>by rw[e];exact h.w1.1) (fun e=>h.wv j e)
 have FF:Fr W (fun j=>W j∨v'.ownBlock=some j) w w':=(c3.wide hsub).more fun j hj=>hj.elim Or.inl (fun e=>(c3.sub j (Or.inr e)).elim (fun e2=>Or.inl (hsub j e2)) Or.inr)
 have off:∀ j,j<w.heap.size->j≠fb->v.ownBlock≠some j->w'.heap[j]?=w.heap[j]?:=fun j hj h1 h2=>c3.blk j hj (fun e=>e.elim h1 h2)
 refine⟨fun j=>W j∨v'.ownBlock=some j,⟨⟨v',bw,L,⟨c1,c2,h.wa.keep (off bw h.wa.lt (h.wa.ne h.is) (row_neMp h.row h.wa)),fun d hd=>(h.ks d hd).keep (off d.b (h.ks d hd).lt ((h.ks d hd).ne h.is) (row_neMp h.row (h.ks d hd))),h.nd,h.kn,h.ne,⟨Or.inl h.w1.1,Or.inl h.w1.2⟩,fun g e=>Or.inr e,fun d hd=>Or.inl (h.w2 d hd),hr⟩,rfl⟩,fun j hj=>hj.elim (fun hj=>Nat.lt_of_lt_of_le (hlt j hj) FF.size) (fun e=>c2.lt e)⟩,FF⟩
theorem commit_any (h:Fo W w fb K G n) (hw:wfT t) (hn:K.length+(ksG G t).length<=1000) (hc:0<=n/\n<1000000) :
  Calls Tryz.prog 86 #[.pointer (some ⟨fb,0,none⟩),.int .i64 t] w fun e w'=>e=.returned (.tuple #[])/\FoO W w w' fb (cmsK K (ksG G t)) G (n+1):=by
 obtain⟨v,bw,L,hI,rfl⟩:=h.ex
 cases hd:lkD L t with
 | none =>
  have e:ksG (L.map (·.g)) t=[]:=by unfold ksG;rw[lkG_map,hd];rfl
  rw[e]
  refine(commit_none hI hw hd hc).mono ?_
  rintro e w' ⟨he,hco⟩
  exact⟨he,hco.fo hI h.lt hI.up⟩
 | some d =>
  have e:ksG (L.map (·.g)) t=d.g.ks:=by unfold ksG;rw[lkG_map,hd];rfl
  rw[e] at hn ⊢
  refine(commit_on hI h.lt hw hd hn hc).mono ?_
  rintro e w' ⟨he,hco⟩
  exact⟨he,hco.fo hI h.lt (cmsK_ris hI.up)⟩
structure Fs where
 K:List CL
 G:List Gt
 n:Int
def noteF (s:Fs) (r:Rc):Fs :=
 if r.kd=7 then⟨cmsK s.K (ksG s.G r.tx),dropG s.G r.tx,s.n+1⟩
 else if r.kd=8 then⟨s.K,dropG s.G r.tx,s.n⟩
 else⟨s.K,(match bhd r with |some x=>putG s.G r.tx r.ky x |none=>s.G),s.n⟩
theorem FoO.dropped {w1 w2:World} (h:FoI W w1 fb v bw K L n) (hlt:∀ j,W j->j<w1.heap.size) (t:Int) (Tn:w1.mapTurned w2 bw) (M:Mp w2 3 bw (if(fW L (.int .i64 t)).isSome then L.length-1 else L.length) (updL (fW L) (.int .i64 t) none)):FoO W w1 w2 fb K (dropG (L.map (·.g)) t) n:=by
 have F:Fr W W w1 w2:=turned_fr Tn h.w1.2
 have e:dropG (L.map (·.g)) t=(L.filter fun d=>d.g.txn !=t).map (·.g):=by unfold dropG;rw[List.filter_map];rfl
 rw[e]
 exact⟨W,⟨⟨v,bw,_,h.gone t (turned_off Tn) (row_neMp h.row h.wa) M,rfl⟩,fun j hj=>Nat.lt_of_lt_of_le (hlt j hj) F.size⟩,F⟩
theorem FoO.trans {w1 w2:World} {K2:List CL} {G2:List Gt} {n2:Int} {W1:Nat->Prop} (f:Fr W W1 w w1) (h:FoO W1 w1 w2 fb K2 G2 n2):FoO W w w2 fb K2 G2 n2:=by
 obtain⟨W2,h1,h2⟩:=h.ex
 exact⟨W2,h1,f.trans h2⟩
set_option maxHeartbeats 1000000 in
theorem Note_any (h:Fo W w fb K G n) (hw:wfT r.tx) (hs:r.ky.size<=9223372036854775807) (hn:K.length+(ksG G r.tx).length<=1000) (hc:0<=n/\n<1000000) (hn2:∀ g∈G,g.ks.length<100000) (hl:G.length<100000) :
  Calls Tryz.prog 54 #[.pointer (some ⟨fb,0,none⟩),.agg (r.A I T)] w fun e w'=>e=.returned (.tuple #[])/\FoO W w w' fb (noteF ⟨K,G,n⟩ r).K (noteF ⟨K,G,n⟩ r).G (noteF ⟨K,G,n⟩ r).n:=by
 have HF:Hid (Fo W w fb K G n):=h
 have HM:Hid (∀ wx,Below w.heap.size w wx->Calls Tryz.prog 84 #[.pointer (some ⟨fb,0,none⟩)] wx fun e w'=>e=.returned (.bool true)/\w'=wx):=fun wx hb=>by
  obtain⟨v,bw,L,hI,_⟩:=(h.bel hb).ex
  exact isMade_ok hI.is
 by_cases h7:r.kd=7
 ·have CC:Hid (∀ wx,Below w.heap.size w wx->Calls Tryz.prog 86 #[.pointer (some ⟨fb,0,none⟩),.int .i64 r.tx] wx fun e w'=>e=.returned (.tuple #[])/\FoO W wx w' fb (cmsK K (ksG G r.tx)) G (n+1)):=fun wx hb=>commit_any (h.bel hb) hw hn hc
  have HK:Hid (keyOf Tryz.prog 3 (.int .i64 r.tx)=some (.int .i64 r.tx)):=keyI hw
  have e9:noteF ⟨K,G,n⟩ r=⟨cmsK K (ksG G r.tx),dropG G r.tx,n+1⟩:=by unfold noteF;rw[if_pos h7]
  rw[e9]
  clear h hw hs hn hn2 hl hc e9
  obtain⟨kd,tx,pv,pg,ac,ky,ol,nw,nx,ep,nd⟩:=r
  dsimp only at CC HK h7 ⊢
  subst h7
  generalize cmsK K (ksG G tx)=K2 at *
  go_enter Tryz.func54,Tryz.ntmps54
  go_wp2_with first
   | (refine wpList_box_at (A:=Rc.A ⟨7,tx,pv,pg,ac,ky,ol,nw,nx,ep,nd⟩ I T) _ rfl _ rfl rfl ?_;intro w1 b1 N1;have c1:w1.cell? ⟨b1,1,none⟩=some (.int .i64 tx):=N1.is.c 1;have c0:w1.cell? ⟨b1,0,none⟩=some (.int .i64 7):=N1.is.c 0)
   | (go_at_call 84;refine(HM.out _ N1.bel).mono ?_;rintro e w2 ⟨rfl,rfl⟩)
   | (go_at_call 86;refine(CC.out _ N1.bel).mono ?_;rintro e w3 ⟨rfl,W3,hF3,hf3⟩)
  obtain⟨v3,bw,L3,hI3,rfl⟩:=hF3.ex
  have I3:Hid (FoI W3 w3 fb v3 bw K2 L3 (n+1)):=hI3
  have R3:Hid (At w3 b1 54 (Rc.A ⟨7,tx,pv,pg,ac,ky,ol,nw,nx,ep,nd⟩ I T)):=N1.is.fr hf3 (fun e=>by have:=HF.out.lt _ e;have:=N1.eq;omega)
  have p1:w3.cell? ⟨fb,1,none⟩=some (.map (some bw)):=I3.out.is.c 1
  have q1:w3.cell? ⟨b1,1,none⟩=some (.int .i64 tx):=R3.out.c 1
  go_region_held_law (fun wx=>wx.cell? ⟨fb,1,none⟩=some (.map (some bw))/\wx.cell? ⟨b1,1,none⟩=some (.int .i64 tx)) (first |exact⟨p1,q1⟩ |exact⟨j0,j1⟩) ((refine step_drop_mp rfl _ _ rfl KI uW (by simp[Act.eval,Act.put]) (I3.out.wa.keep (by rfl)) (by simp[Act.eval,Act.put]) HK.out ?_;intro w5 M5 T5;have j0:w5.cell? ⟨fb,1,none⟩=some (.map (some bw)):=(World.cell?_of_block (turned_off T5 fb (I3.out.wa.ne I3.out.is).symm)).trans p1;have j1:w5.cell? ⟨b1,1,none⟩=some (.int .i64 tx):=(World.cell?_of_block (turned_off T5 b1 (I3.out.wa.ne R3.out).symm)).trans q1))
  go_wp2
  go_end0
  refine⟨rfl,FoO.trans ((Fr.of_below N1.bel W).trans (hf3.below (bdr (Below.refl _ _) 1))) ?_⟩
  exact FoO.dropped (w1:=w3.drew) (I3.out.keep (fun j hj=>rfl)) (fun j hj=>hF3.lt j hj) tx T5 M5
 ·by_cases h8:r.kd=8
  ·have HK:Hid (keyOf Tryz.prog 3 (.int .i64 r.tx)=some (.int .i64 r.tx)):=keyI hw
   have e9:noteF ⟨K,G,n⟩ r=⟨K,dropG G r.tx,n⟩:=by unfold noteF;rw[if_neg h7,if_pos h8]
   rw[e9]
   clear h hw hs hn hn2 hl hc e9 h7
   obtain⟨kd,tx,pv,pg,ac,ky,ol,nw,nx,ep,nd⟩:=r
   dsimp only at HK h8 ⊢
   subst h8
   obtain⟨v3,bw,L3,hI3,rfl⟩:=HF.out.ex
   have I0:Hid (FoI W w fb v3 bw K L3 n):=hI3
   clear hI3
   go_enter Tryz.func54,Tryz.ntmps54
   go_wp2_with first
    | (refine wpList_box_at (A:=Rc.A ⟨8,tx,pv,pg,ac,ky,ol,nw,nx,ep,nd⟩ I T) _ rfl _ rfl rfl ?_;intro w3 b1 N1;have q1:w3.cell? ⟨b1,1,none⟩=some (.int .i64 tx):=N1.is.c 1;have c0:w3.cell? ⟨b1,0,none⟩=some (.int .i64 8):=N1.is.c 0;have I3:Hid (FoI W w3 fb v3 bw K L3 n):=I0.out.keep (fun j hj=>N1.bel.block j (HF.out.lt j hj));have p1:w3.cell? ⟨fb,1,none⟩=some (.map (some bw)):=I3.out.is.c 1)
    | (go_at_call 84;refine(HM.out _ N1.bel).mono ?_;rintro e w2 ⟨rfl,rfl⟩)
   go_region_held_law (fun wx=>wx.cell? ⟨fb,1,none⟩=some (.map (some bw))/\wx.cell? ⟨b1,1,none⟩=some (.int .i64 tx)) (first |exact⟨p1,q1⟩ |exact⟨j0,j1⟩) ((refine step_drop_mp rfl _ _ rfl KI uW (by simp[Act.eval,Act.put]) (I3.out.wa.keep (by rfl)) (by simp[Act.eval,Act.put]) HK.out ?_;intro w5 M5 T5;have j0:w5.cell? ⟨fb,1,none⟩=some (.map (some bw)):=(World.cell?_of_block (turned_off T5 fb (I3.out.wa.ne I3.out.is).symm)).trans p1;have j1:w5.cell? ⟨b1,1,none⟩=some (.int .i64 tx):=(World.cell?_of_block (turned_off T5 b1 (I3.out.wa.ne N1.is).symm)).trans q1))
   go_wp2
   go_end0
   refine⟨rfl,FoO.trans (Fr.of_below (bdr N1.bel 1) W) ?_⟩
   exact FoO.dropped (w1:=w2.drew) (I3.out.keep (fun j hj=>rfl)) (fun j hj=>Nat.lt_of_lt_of_le (HF.out.lt j hj) N1.bel.size) tx T5 M5
  ·have CT:Hid (∀ wx,Below w.heap.size w wx->Calls Tryz.prog 87 #[.pointer (some ⟨fb,0,none⟩),.agg (r.A I T)] wx fun e w'=>e=.returned (.tuple #[])/\FoO W wx w' fb K (match bhd r with |some x=>putG G r.tx r.ky x |none=>G) n):=fun wx hb=>turn_any (h.bel hb) hw hs hn2 hl
   have e9:noteF ⟨K,G,n⟩ r=⟨K,(match bhd r with |some x=>putG G r.tx r.ky x |none=>G),n⟩:=by unfold noteF;rw[if_neg h7,if_neg h8]
   rw[e9]
   dsimp only
   clear h hw hs hn hn2 hl hc e9
   generalize (match bhd r with |some x=>putG G r.tx r.ky x |none=>G)=G2 at *
   obtain⟨kd,tx,pv,pg,ac,ky,ol,nw,nx,ep,nd⟩:=r
   have hb7:(kd==7)=false:=by simpa using h7
   have hb8:(kd==8)=false:=by simpa using h8
   go_enter Tryz.func54,Tryz.ntmps54
   go_wp2_with first
    | (refine wpList_box_at (A:=Rc.A ⟨kd,tx,pv,pg,ac,ky,ol,nw,nx,ep,nd⟩ I T) _ rfl _ rfl rfl ?_;intro w1 b1 N1;have c0:w1.cell? ⟨b1,0,none⟩=some (.int .i64 kd):=N1.is.c 0)
    | (go_at_call 84;refine(HM.out _ N1.bel).mono ?_;rintro e w2 ⟨rfl,rfl⟩)
    | (refine wpList_load_at stRc (A:=Rc.A ⟨kd,tx,pv,pg,ac,ky,ol,nw,nx,ep,nd⟩ I T) _ rfl _ rfl rfl N1.is rfl ?_)
    | (go_at_call 87;refine(CT.out _ N1.bel).mono ?_;rintro e w3 ⟨rfl,hO⟩)
   go_end0
   exact⟨rfl,FoO.trans (Fr.of_below N1.bel W) hO⟩
end
end Go.Proofs.YtdchjncnjgelhaaGreat.Fd
