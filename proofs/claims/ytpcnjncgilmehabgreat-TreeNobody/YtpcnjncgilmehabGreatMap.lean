import Derived.Test.YtpcnjncgilmehabGreatMao
import Derived.Test.YtpcnjncgilmehabGreatMaa
set_option linter.unusedVariables false
set_option linter.unusedSimpArgs false
set_option maxRecDepth 100000
namespace Go.Proofs.YtpcnjncgilmehabGreat
open Go.RowKit Go.Maps Go.ChangeMaps
def lgR (db bs sc run:Nat) (fs:List ByteArray) (dur:Nat) (dead:Bool):Lr:=⟨db,(bs:Int),(sc:Int),(run:Int),cat fs,plc 1 fs,(dur:Int)+1,dead⟩
structure Fit (sc:Nat) (fs:List ByteArray):Prop where
 frm:∀ f∈fs,Frm f
 sz:(cat fs).size<=58*sc
 s0:1<=sc
 s1:sc<=8000
section
variable [Inhabited PrSet]{B l k db:Nat}{w w':World}{S:Dk}
theorem Lx.kept {R R':Lr} (h:Lx B w l k S R) (hd:R'.db=R.db) (g:LrIs B w' l R') (hk:Kp isL B w w'):Lx B w' l k S R':=⟨by rw[hd];exact h.d.kept hk,g⟩
end
section
variable {l:Nat}{fs gs:List ByteArray}
theorem cat_moved (fs gs:List ByteArray):plc 1 fs++moved (((cat fs).size:Int)+1) (plc 0 gs)=plc 1 (fs++gs):=by
 rw[plc_append]
 congr 1
 have:∀ (gs:List ByteArray) (a n:Nat),moved ((n:Int)+1) (plc a gs)=plc (1+n+a) gs:=by
  intro gs
  induction gs with
  | nil=>intro a n;rfl
  | cons f l ih =>
   intro a n
   have:=ih (a+f.size) n
   simp only[moved,plc,List.map_cons] at this ⊢
   rw[this,show 1+n+(a+f.size)=1+n+a+f.size by omega,show(n:Int)+1+(a:Int)=((1+n+a:Nat):Int) by omega]
 have e:=this gs 0 (cat fs).size
 rw[Nat.add_zero] at e
 exact e
end
section
variable [Inhabited PrSet]{B l k db bs sc run dur:Nat}{w w' w0:World}{S:Dk}{fs gs:List ByteArray}{dead:Bool}
set_option maxHeartbeats 1000000 in
theorem add_full (h:Lx B w l k S (lgR db bs sc run fs dur dead)) (hf:Fit sc fs) (s:ByteArray) (hs:s.size<=1000000) (v:Value) (hn:¬ (cat fs).size+s.size<=58*sc):Calls Tryz.prog 106 #[.pointer (some ⟨l,0,none⟩),.string s,v] w fun e w'=>e=.returned (.tuple #[.int .i64 0,.int .i64 7])/\Below w.heap.size w w':=by
 have h1:=hf.sz
 have h2:=hf.s1
 have CL:Hid (Calls Tryz.prog 156 #[.pointer (some ⟨l,0,none⟩)] w fun e w'=>e=.returned (.int .i64 ((sc:Int)*58-((cat fs).size:Int)))/\Below w.heap.size w w'):=Left_any h.g (by show(cat fs).size<=1000000;omega) (by show(0:Int)<=(sc:Int);omega) (by show(sc:Int)<=10000;omega)
 have t1:(sc:Int)*58-((cat fs).size:Int)<(s.size:Int):=by omega
 clear h hf hn h1 h2
 generalize (sc:Int)*58-((cat fs).size:Int)=L at *
 have hs':(s.size:Int)<=1000000:=by omega
 go_enter Tryz.func106,Tryz.ntmps106
 go_wp2_with (go_at_call 156;refine CL.out.mono ?_;rintro e w1 ⟨rfl,b1⟩)
 go_ret2
 exact⟨rfl,b1⟩
set_option maxHeartbeats 1000000 in
theorem add_ok {v:Value} (h:Lx B w0 l k S (lgR db bs sc run fs dur false)) (hb:Below w0.heap.size w0 w) (hf:Fit sc fs) (hg:∀ g∈gs,Frm g) (ho:OwnI w0.heap.size w v (plc 0 gs)) (hn:(cat fs).size+(cat gs).size<=58*sc) :
  Calls Tryz.prog 106 #[.pointer (some ⟨l,0,none⟩),.string (cat gs),v] w fun e w'=>e=.returned (.tuple #[.int .i64 (((cat fs).size:Int)+1),.int .i64 0])/\Lx B w' l k S (lgR db bs sc run (fs++gs) dur false)/\Kp isL B w w':=by
 have h1:=hf.sz
 have h2:=hf.s1
 have CL:Hid (Calls Tryz.prog 156 #[.pointer (some ⟨l,0,none⟩)] w fun e w'=>e=.returned (.int .i64 ((sc:Int)*58-((cat fs).size:Int)))/\Below w.heap.size w w'):=Left_any (h.below hb).g (by show(cat fs).size<=1000000;omega) (by show(0:Int)<=(sc:Int);omega) (by show(sc:Int)<=10000;omega)
 have CE:Hid (∀ wx,Below w0.heap.size w0 wx->Calls Tryz.prog 7 #[.pointer (some ⟨l,0,none⟩)] wx fun e w'=>e=.returned (.int .i64 (((cat fs).size:Int)+1))/\w'=wx):=fun wx hx=>End_any (h.below hx).g (by show(cat fs).size<=1000000;omega)
 have CG:Hid (∀ wx,Below w0.heap.size w0 wx->OwnI w0.heap.size wx v (plc 0 gs)->Calls Tryz.prog 57 #[.pointer (some ⟨l,0,none⟩),.string (cat gs),v] wx fun e w'=>e=.returned (.tuple #[])/\Lx B w' l k S (lgR db bs sc run (fs++gs) dur false)/\Kp isL B wx w'):=fun wx hx hox=>by
  have l1:=cat_len hf.frm
  have l2:=cat_len hg
  have:=gather_any h.g hx hox (cat gs) (by show(cat fs).size+(cat gs).size<=1000000;omega) (plc_bd gs 0 1000000 (by omega)) (by show(plc 1 fs).length+(plc 0 gs).length<=100000;rw[plc_length,plc_length];omega)
  refine this.mono ?_
  rintro e w' ⟨he,hL,hK⟩
  refine⟨he,(h.below hx).kept rfl ?_ hK,hK⟩
  have e1:cat fs++cat gs=cat (fs++gs):=(cat_append fs gs).symm
  have e2:=cat_moved fs gs
  show LrIs B w' l ⟨db,(bs:Int),(sc:Int),(run:Int),cat (fs++gs),plc 1 (fs++gs),(dur:Int)+1,false⟩
  rw[← e1,← e2]
  exact hL
 have HO:Hid (OwnI w0.heap.size w v (plc 0 gs)):=ho
 have HB:Hid (Below w0.heap.size w0 w):=hb
 have H9:Hid (∀ wx,Below w0.heap.size w0 wx->wx.cell? ⟨l,9,none⟩=some (.bool false)):=fun wx hx=>(h.below hx).g.c9
 have hle:=h.le
 have t1:¬ (sc:Int)*58-((cat fs).size:Int)<((cat gs).size:Int):=by omega
 have hs':((cat gs).size:Int)<=1000000:=by omega
 clear h hf hn h1 h2 ho hb hg
 generalize (sc:Int)*58-((cat fs).size:Int)=L at *
 generalize ((cat fs).size:Int)+1=E at *
 generalize cat gs=s at *
 go_enter Tryz.func106,Tryz.ntmps106
 go_wp2_with (first
  | (go_at_call 156;refine CL.out.mono ?_;rintro e w1 ⟨rfl,b1⟩;have bb:Below w0.heap.size w0 w1:=thn HB.out b1;have c9:=H9.out _ bb)
  | (go_at_call 7;refine(CE.out _ bb).mono ?_;rintro e w2 ⟨rfl,rfl⟩)
  | (go_at_call 57;refine(CG.out _ bb (HO.out.below b1)).mono ?_;rintro e w3 ⟨rfl,H3,k3⟩))
 go_ret2
 exact⟨rfl,H3,(Kp.of_below b1 (Nat.le_trans hle HB.out.size)).trans k3⟩
set_option maxHeartbeats 1000000 in
theorem append_err {v:Value} {m:Rm} (h:Lx B w l k S (lgR db bs sc run fs dur false)) (hf:Fit sc fs) (hv:RecV w v m) (hm:Small m) (he:(frameM m).2≠0) :
  Calls Tryz.prog 67 #[.pointer (some ⟨l,0,none⟩),v] w fun e w'=>e=.returned (.tuple #[.int .i64 0,.int .i64 (frameM m).2])/\Below w.heap.size w w':=by
 have CI:Hid (∀ wx,Below w.heap.size w wx->Calls Tryz.prog 33 #[.pointer (some ⟨l,0,none⟩)] wx fun e w'=>e=.returned (.bool true)/\w'=wx):=fun wx hx=>isOpen_any (h.below hx).g
 have CF:Hid (∀ wx,Below w.heap.size w wx->Calls Tryz.prog 105 #[v] wx fun r w'=>r=.returned (.tuple #[.string (frameM m).1,.int .i64 (frameM m).2])/\Below wx.heap.size wx w'):=fun wx hx=>Frame_any (hv.below hx) hm
 have he':((frameM m).2 !=0)=true:=by simpa using he
 clear he
 generalize (frameM m).1=F at *
 generalize (frameM m).2=E at *
 obtain⟨sm,im,tb⟩:=m
 obtain⟨I,T,rfl,hI,hT⟩:=hv.ex
 dsimp only at *
 clear hf hv hI hT
 have H:Hid (Lx B w l k S (lgR db bs sc run fs dur false)):=h
 have hle:=h.le
 clear h
 go_enter Tryz.func67,Tryz.ntmps67
 go_wp2_with (first
  | (refine wpList_box_rc (s:=sm) (I:=_) (T:=_) _ rfl _ rfl rfl ?_;intro w1 b1 N1)
  | (go_at_call 33;refine(CI.out _ N1.below).mono ?_;rintro e w2 ⟨rfl,rfl⟩)
  | (refine wpList_load_rc _ rfl (.tmp 3) rfl rfl N1.rc ?_)
  | (go_at_call 105;refine(CF.out _ N1.below).mono ?_;rintro e w3 ⟨rfl,b3⟩;have bb:=thn N1.below b3;clear N1 b3))
 go_ret2
 exact⟨rfl,bb⟩
set_option maxHeartbeats 1000000 in
theorem append_full {v:Value} {m:Rm} (h:Lx B w l k S (lgR db bs sc run fs dur false)) (hf:Fit sc fs) (hv:RecV w v m) (hm:Small m) (he:(frameM m).2=0) (hn:¬ (cat fs).size+(frameM m).1.size<=58*sc) :
  Calls Tryz.prog 67 #[.pointer (some ⟨l,0,none⟩),v] w fun e w'=>e=.returned (.tuple #[.int .i64 0,.int .i64 7])/\Below w.heap.size w w':=by
 have CI:Hid (∀ wx,Below w.heap.size w wx->Calls Tryz.prog 33 #[.pointer (some ⟨l,0,none⟩)] wx fun e w'=>e=.returned (.bool true)/\w'=wx):=fun wx hx=>isOpen_any (h.below hx).g
 have CF:Hid (∀ wx,Below w.heap.size w wx->Calls Tryz.prog 105 #[v] wx fun r w'=>r=.returned (.tuple #[.string (frameM m).1,.int .i64 (frameM m).2])/\Below wx.heap.size wx w'):=fun wx hx=>Frame_any (hv.below hx) hm
 have hz:=(frm_good he).le
 have CA:Hid (∀ wx v',Below w.heap.size w wx->Calls Tryz.prog 106 #[.pointer (some ⟨l,0,none⟩),.string (frameM m).1,v'] wx fun e w'=>e=.returned (.tuple #[.int .i64 0,.int .i64 7])/\Below wx.heap.size wx w'):=fun wx v' hx=>add_full (h.below hx) hf _ (by omega) v' hn
 rw[he] at CF
 clear he hn hz
 generalize (frameM m).1=F at *
 obtain⟨sm,im,tb⟩:=m
 obtain⟨I,T,rfl,hI,hT⟩:=hv.ex
 dsimp only at *
 clear hf hv hI hT
 have H:Hid (Lx B w l k S (lgR db bs sc run fs dur false)):=h
 have hle:=h.le
 clear h
 go_enter Tryz.func67,Tryz.ntmps67
 go_wp2_with (first
  | (refine wpList_box_rc (s:=sm) (I:=_) (T:=_) _ rfl _ rfl rfl ?_;intro w1 b1 N1)
  | (go_at_call 33;refine(CI.out _ N1.below).mono ?_;rintro e w2 ⟨rfl,rfl⟩)
  | (refine wpList_load_rc _ rfl (.tmp 3) rfl rfl N1.rc ?_)
  | (go_at_call 105;refine(CF.out _ N1.below).mono ?_;rintro e w3 ⟨rfl,b3⟩;have bb:=thn N1.below b3;clear N1 b3)
  | (go_at_call 106;refine(CA.out _ _ ?_).mono ?_;exact thn bb ((Below.refl _ _).alloc (Nat.le_refl _) _);rintro e w5 ⟨rfl,b5⟩))
 go_ret2
 exact⟨rfl,thn (thn bb ((Below.refl _ _).alloc (Nat.le_refl _) _)) b5⟩
set_option maxHeartbeats 1000000 in
theorem append_ok {v:Value} {m:Rm} (h:Lx B w l k S (lgR db bs sc run fs dur false)) (hf:Fit sc fs) (hv:RecV w v m) (hm:Small m) (he:(frameM m).2=0) (hn:(cat fs).size+(frameM m).1.size<=58*sc) :
  Calls Tryz.prog 67 #[.pointer (some ⟨l,0,none⟩),v] w fun e w'=>e=.returned (.tuple #[.int .i64 (((cat fs).size:Int)+1),.int .i64 0])/\Lx B w' l k S (lgR db bs sc run (fs++[(frameM m).1]) dur false)/\Kp isL B w w':=by
 have CI:Hid (∀ wx,Below w.heap.size w wx->Calls Tryz.prog 33 #[.pointer (some ⟨l,0,none⟩)] wx fun e w'=>e=.returned (.bool true)/\w'=wx):=fun wx hx=>isOpen_any (h.below hx).g
 have CF:Hid (∀ wx,Below w.heap.size w wx->Calls Tryz.prog 105 #[v] wx fun r w'=>r=.returned (.tuple #[.string (frameM m).1,.int .i64 (frameM m).2])/\Below wx.heap.size wx w'):=fun wx hx=>Frame_any (hv.below hx) hm
 have hfr:=frm_good he
 have hcat:cat [(frameM m).1]=(frameM m).1:=by rw[cat,cat,app_nil]
 have CA:Hid (∀ w0 wx v',Below w.heap.size w w0->Below w0.heap.size w0 wx->OwnI w0.heap.size wx v' [0]->Calls Tryz.prog 106 #[.pointer (some ⟨l,0,none⟩),.string (frameM m).1,v'] wx fun e w'=>e=.returned (.tuple #[.int .i64 (((cat fs).size:Int)+1),.int .i64 0])/\Lx B w' l k S (lgR db bs sc run (fs++[(frameM m).1]) dur false)/\Kp isL B wx w'):=fun w0 wx v' h0 hx ho=>by
  have:=add_ok (gs:=[(frameM m).1]) (h.below h0) hx hf (fun g hg=>by rw[List.mem_singleton] at hg;subst hg;exact hfr) ho (by rw[hcat];exact hn)
  rw[hcat] at this
  exact this
 rw[he] at CF
 clear he hn hfr hcat
 generalize (frameM m).1=F at *
 generalize ((cat fs).size:Int)+1=E at *
 obtain⟨sm,im,tb⟩:=m
 obtain⟨I,T,rfl,hI,hT⟩:=hv.ex
 dsimp only at *
 clear hf hv hI hT
 have H:Hid (Lx B w l k S (lgR db bs sc run fs dur false)):=h
 have hle:=h.le
 clear h
 go_enter Tryz.func67,Tryz.ntmps67
 go_wp2_with (first
  | (refine wpList_box_rc (s:=sm) (I:=_) (T:=_) _ rfl _ rfl rfl ?_;intro w1 b1 N1)
  | (go_at_call 33;refine(CI.out _ N1.below).mono ?_;rintro e w2 ⟨rfl,rfl⟩)
  | (refine wpList_load_rc _ rfl (.tmp 3) rfl rfl N1.rc ?_)
  | (go_at_call 105;refine(CF.out _ N1.below).mono ?_;rintro e w3 ⟨rfl,b3⟩;have bb:=thn N1.below b3;clear N1 b3)
  | (go_at_call 106;refine(CA.out w3 _ _ bb ?_ ?_).mono ?_;exact(Below.refl _ _).alloc (Nat.le_refl _) _;exact OwnI.one 0 (Nat.le_refl _);rintro e w5 ⟨rfl,H5,k5⟩))
 go_ret2
 exact⟨rfl,H5,(Kp.of_below (thn bb ((Below.refl _ _).alloc (Nat.le_refl _) _)) hle).trans k5⟩
end
section
variable [Inhabited PrSet]{B l k db bs sc run dur:Nat}{w w' w0:World}{S S':Dk}{fs:List ByteArray}
set_option maxHeartbeats 1000000 in
theorem flush_same (h:Lx B w l k S (lgR db bs sc run fs dur false)) (hf:Fit sc fs) (hd:dur=(cat fs).size):Calls Tryz.prog 218 #[.pointer (some ⟨l,0,none⟩)] w fun e w'=>e=.returned (.int .i64 0)/\Below w.heap.size w w':=by
 have h1:=hf.sz
 have h2:=hf.s1
 have CI:Hid (Calls Tryz.prog 33 #[.pointer (some ⟨l,0,none⟩)] w fun e w'=>e=.returned (.bool true)/\w'=w):=isOpen_any h.g
 have CE:Hid (∀ wx,Lx B wx l k S (lgR db bs sc run fs dur false)->Calls Tryz.prog 7 #[.pointer (some ⟨l,0,none⟩)] wx fun e w'=>e=.returned (.int .i64 ((dur:Int)+1))/\w'=wx):=fun wx hx=>by
  rw[hd];rw[hd] at hx
  exact End_any hx.g (by show(cat fs).size<=1000000;omega)
 have c9:w.cell? ⟨l,9,none⟩=some (.bool false):=h.g.c9
 have c8:w.cell? ⟨l,8,none⟩=some (.int .i64 ((dur:Int)+1)):=h.g.c8
 have H:Hid (Lx B w l k S (lgR db bs sc run fs dur false)):=h
 clear h hf hd h1 h2
 generalize (dur:Int)+1=D at *
 go_enter Tryz.func218,Tryz.ntmps218
 go_wp2_with (go_at_call 33;refine CI.out.mono ?_;rintro e w0 ⟨rfl,rfl⟩)
 go_quiet ((go_at_call 7;exact Calls.quiet_of_same (CE.out _ (H.out.drewN _))))
 go_wp2
 go_ret
 exact⟨rfl,Sm.below_dr (Below.refl _ _) nq⟩
structure FlS (B:Nat) (w w':World) (l k:Nat) (S S':Dk) (db bs sc run:Nat) (fs:List ByteArray) (dur:Nat) (x:Int):Prop where
 lx:Lx B w' l (k+sc+1) S' (lgR db bs sc run fs (if x=0 then(cat fs).size else dur) (x !=0))
 kp:Kp isA B w w'
 ld:Laid S S' (nw bs (cat fs) run (dur / 58) (((cat fs).size-1) / 58+1)) x
set_option maxHeartbeats 4000000 in
theorem flush_any (h:Lx B w l k S (lgR db bs sc run fs dur false)) (hk:k<=300000000000) (hf:Fit sc fs) (hd:dur<(cat fs).size) (hr:run<4294967296) (hfit:bs+sc<=S.n) (hu:S.up=true):Calls Tryz.prog 218 #[.pointer (some ⟨l,0,none⟩)] w fun e w'=>∃ S' x,e=.returned (.int .i64 x)/\FlS B w w' l k S S' db bs sc run fs dur x:=by
 have h1:=hf.sz
 have h2:=hf.s1
 have CI:Hid (Calls Tryz.prog 33 #[.pointer (some ⟨l,0,none⟩)] w fun e w'=>e=.returned (.bool true)/\w'=w):=isOpen_any h.g
 have CE:Hid (∀ wx k' S1 b,Lx B wx l k' S1 (lgR db bs sc run fs dur b)->Calls Tryz.prog 7 #[.pointer (some ⟨l,0,none⟩)] wx fun e w'=>e=.returned (.int .i64 (((cat fs).size:Int)+1))/\w'=wx):=fun wx k' S1 b hx=>End_any hx.g (by show(cat fs).size<=1000000;omega)
 have CS:Hid (∀ wx,Lx B wx l k S (lgR db bs sc run fs dur false)->Calls Tryz.prog 38 #[.pointer (some ⟨l,5,none⟩)] wx fun v w'=>v=.returned (.string (cat fs))/\Lx B w' l k S (lgR db bs sc run fs dur false)/\Kp isL B wx w'):=fun wx hx=>by
  refine(String_log hx.g).mono ?_
  rintro v w' ⟨hv,g1,k1⟩
  exact⟨hv,hx.kept rfl g1 k1,k1⟩
 have C1:Hid (∀ wx,Calls Tryz.prog 98 #[.int .i64 ((dur:Int)+1)] wx fun v w'=>v=.returned (.int .i64 ((dur / 58:Nat):Int))/\w'=wx):=fun wx=>by
  have:=sectorOf_any ((dur:Int)+1) (by omega) (by omega) wx
  rw[show((dur:Int)+1-1) / 58=((dur / 58:Nat):Int) by omega] at this
  exact this
 have C2:Hid (∀ wx,Calls Tryz.prog 98 #[.int .i64 (((cat fs).size:Int)+1-1)] wx fun v w'=>v=.returned (.int .i64 ((((cat fs).size-1) / 58:Nat):Int))/\w'=wx):=fun wx=>by
  have:=sectorOf_any (((cat fs).size:Int)+1-1) (by omega) (by omega) wx
  rw[show(((cat fs).size:Int)+1-1-1) / 58=((((cat fs).size-1) / 58:Nat):Int) by omega] at this
  exact this
 have CL:Hid (∀ wx,Lx B wx l k S (lgR db bs sc run fs dur false)->Calls Tryz.prog 99 #[.pointer (some ⟨l,0,none⟩),.string (cat fs),.int .i64 (run:Int),.int .i64 ((dur / 58:Nat):Int),.int .i64 (((((cat fs).size-1) / 58:Nat):Int)+1)] wx fun v w' =>
   ∃ S' x,v=.returned (.int .i64 x)/\Lx B w' l (k+sc+1) S' (lgR db bs sc run fs dur (x !=0))/\Kp isA B wx w'/\Laid S S' (nw bs (cat fs) run (dur / 58) (((cat fs).size-1) / 58+1)) x):=fun wx hx=>by
  rw[show((((cat fs).size-1) / 58:Nat):Int)+1=((((cat fs).size-1) / 58+1:Nat):Int) by omega]
  refine(lay_any hx (by omega) (bs:=bs) rfl (cat fs) (by omega) run _ _ hr (by omega) (by omega) (by omega) (fun i a b=>by omega) hu).mono ?_
  rintro v w' ⟨S',x,hv,hl,hk',hL⟩
  exact⟨S',x,hv,hl.mono (by omega),hk',hL⟩
 have HD:Hid (∀ wx k' S1,Lx B wx l k' S1 (lgR db bs sc run fs dur false)->Lx B (wx.setCell ⟨l,8,none⟩ (.int .i64 (((cat fs).size:Int)+1))) l k' S1 (lgR db bs sc run fs (cat fs).size false)/\Kp isL B wx (wx.setCell ⟨l,8,none⟩ (.int .i64 (((cat fs).size:Int)+1)))):=fun wx k' S1 hx=>hx.set rfl rfl rfl (fun p v pv=>rfl)
 have H8:Hid (∀ wx k' S1 b,Lx B wx l k' S1 (lgR db bs sc run fs dur b)->wx.cell? ⟨l,4,none⟩=some (.int .i64 (run:Int))/\wx.cell? ⟨l,8,none⟩=some (.int .i64 ((dur:Int)+1))):=fun wx k' S1 b hx=>⟨hx.g.c4,hx.g.c8⟩
 have c9:w.cell? ⟨l,9,none⟩=some (.bool false):=h.g.c9
 have c8:w.cell? ⟨l,8,none⟩=some (.int .i64 ((dur:Int)+1)):=h.g.c8
 have H:Hid (Lx B w l k S (lgR db bs sc run fs dur false)):=h
 have hle:=h.le
 have t1:((dur:Int)+1==((cat fs).size:Int)+1)=false:=by simp;omega
 have hE0:(1:Int)<=((cat fs).size:Int):=by omega
 have hE1:((cat fs).size:Int)<=1000000:=by omega
 have hb0:(0:Int)<=((((cat fs).size-1) / 58:Nat):Int):=by omega
 have hb1:((((cat fs).size-1) / 58:Nat):Int)<=10000:=by omega
 clear h hf hd h1 h2 hk hr hfit hu
 have HF:Hid (∀ (wz:World) (S2:Dk) (x:Int),Lx B wz l (k+sc+1) S2 (lgR db bs sc run fs (if x=0 then(cat fs).size else dur) (x !=0))->Kp isA B w wz->Laid S S2 (nw bs (cat fs) run (dur / 58) (((cat fs).size-1) / 58+1)) x->FlS B w wz l k S S2 db bs sc run fs dur x):=fun wz S2 x q1 q2 q3=>⟨q1,q2,q3⟩
 generalize hX:((((cat fs).size-1) / 58:Nat):Int)=b0 at *
 generalize hY:((dur / 58:Nat):Int)=a0 at *
 clear hX hY
 generalize hD:(dur:Int)+1=D at *
 clear hD
 generalize hEE:((cat fs).size:Int)+1=E at *
 have hE2:2<=E:=by omega
 have hE3:E<=1000001:=by omega
 clear hE0 hE1 hEE
 have hw1:IntKind.i64.wrap (E-1)=E-1:=by rw[IntKind.wrap_i64];omega
 have hw2:IntKind.i64.wrap (b0+1)=b0+1:=by rw[IntKind.wrap_i64];omega
 go_enter Tryz.func218,Tryz.ntmps218
 go_wp2_with (go_at_call 33;refine CI.out.mono ?_;rintro e w0 ⟨rfl,rfl⟩)
 go_quiet ((go_at_call 7;exact Calls.quiet_of_same (CE.out _ _ _ _ (H.out.drewN _))))
 go_wp2
 have hd:=(H.out.drewN nq).drew
 have bd:Below w0.heap.size w0 (w0.drewN nq).drew:=(Sm.below_dr (Below.refl _ _) nq).drew
 have HK:Hid (Kp isA B w0 (w0.drewN nq).drew):=Kp.of_below bd hle
 obtain⟨d4,d8⟩:=H8.out _ _ _ _ hd
 clear bd
 go_region_held3 (fun W=>W.cell? ⟨l,4,none⟩=some (.int .i64 (run:Int))/\W.cell? ⟨l,8,none⟩=some (.int .i64 D)) (first |exact⟨keep1,keep2⟩ |exact⟨d4,d8⟩ |go_keep) (first
  | (go_at_call 38;refine(CS.out _ hd).mono ?_;rintro e wA ⟨rfl,hn,kA⟩;have HKn:Hid (Kp isA B w0 wA):=HK.out.trans kA.l;clear hd HK;have hd:=hn;have HK:=HKn;clear hn HKn;obtain⟨keep1,keep2⟩:=H8.out _ _ _ _ hd)
  | (go_at_call 98;refine(C1.out _).mono ?_;clear C1;rintro e wB ⟨rfl,rfl⟩)
  | (go_at_call 7;refine(CE.out _ _ _ _ hd).mono ?_;rintro e wC ⟨rfl,rfl⟩)
  | (go_at_call 98;refine(C2.out _).mono ?_;clear C2;rintro e wD ⟨rfl,rfl⟩)
  | (go_at_call 99;refine(CL.out _ hd).mono ?_;rintro e wE ⟨S2,x,rfl,hn,kE,hL⟩;have HKn:Hid (Kp isA B w0 wE):=HK.out.trans kE;clear hd HK;have hd:=hn;have HK:=HKn;clear hn HKn;obtain⟨keep1,keep2⟩:=H8.out _ _ _ _ hd))
 clear keep1 keep2 d4 d8
 have e9:=hd.g.f 8
 by_cases hx:x=0
 ·subst hx
  have e8:=(H8.out _ _ _ _ hd).2
  have HX:Hid _:=hd
  clear hd
  go_wp2_with (go_at_call 7;refine(CE.out _ _ _ _ HX.out).mono ?_;rintro e wF ⟨rfl,rfl⟩)
  go_ret
  obtain⟨q1,q2⟩:=HD.out _ _ _ HX.out
  exact⟨S2,0,rfl,HF.out _ _ _ q1 (HK.out.trans q2.l) hL⟩
 ·have hx':(x !=0)=true:=by simpa using hx
  have HX:Hid _:=hd
  clear hd
  go_wp2
  go_ret
  exact⟨S2,x,rfl,HF.out _ _ _ (by rw[if_neg hx];exact HX.out) HK.out hL⟩
end
section
variable [Inhabited PrSet]{B l k db bs sc run dur:Nat}{w w' w0:World}{S:Dk}{fs:List ByteArray}{dead:Bool}
theorem need_near (h:Lx B w l k S (lgR db bs sc run fs dur dead)) (x:Int) (hx:x<(dur:Int)+1):Calls Tryz.prog 182 #[.pointer (some ⟨l,0,none⟩),.int .i64 x] w fun e w'=>e=.returned (.int .i64 0)/\w'=w:=by
 have CI:Hid (Calls Tryz.prog 33 #[.pointer (some ⟨l,0,none⟩)] w fun e w'=>e=.returned (.bool true)/\w'=w):=isOpen_any h.g
 have c8:w.cell? ⟨l,8,none⟩=some (.int .i64 ((dur:Int)+1)):=h.g.c8
 clear h
 generalize (dur:Int)+1=D at *
 go_enter Tryz.func182,Tryz.ntmps182
 go_wp2_with (go_at_call 33;refine CI.out.mono ?_;rintro e w0 ⟨rfl,rfl⟩)
 go_ret
 exact⟨rfl,rfl⟩
theorem need_far (h:Lx B w l k S (lgR db bs sc run fs dur dead)) (x:Int) (hx:¬ x<(dur:Int)+1) {P:Int->World->Prop} (hC:Calls Tryz.prog 218 #[.pointer (some ⟨l,0,none⟩)] w fun e w'=>∃ y,e=.returned (.int .i64 y)/\P y w'):Calls Tryz.prog 182 #[.pointer (some ⟨l,0,none⟩),.int .i64 x] w fun e w'=>∃ y,e=.returned (.int .i64 y)/\P y w':=by
 have CI:Hid (Calls Tryz.prog 33 #[.pointer (some ⟨l,0,none⟩)] w fun e w'=>e=.returned (.bool true)/\w'=w):=isOpen_any h.g
 have c8:w.cell? ⟨l,8,none⟩=some (.int .i64 ((dur:Int)+1)):=h.g.c8
 have HC:Hid (Calls Tryz.prog 218 #[.pointer (some ⟨l,0,none⟩)] w fun e w'=>∃ y,e=.returned (.int .i64 y)/\P y w'):=hC
 clear h hC
 generalize (dur:Int)+1=D at *
 go_enter Tryz.func182,Tryz.ntmps182
 go_wp2_with (first
  | (go_at_call 33;refine CI.out.mono ?_;rintro e w0 ⟨rfl,rfl⟩)
  | (go_at_call 218;refine HC.out.mono ?_;rintro e w1 ⟨y,rfl,hP⟩))
 go_ret
 exact⟨y,rfl,hP⟩
end
abbrev E3:=Sc × Value × Value
end Go.Proofs.YtpcnjncgilmehabGreat
