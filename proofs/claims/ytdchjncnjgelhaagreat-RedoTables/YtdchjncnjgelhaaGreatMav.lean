import Derived.Test.YtdchjncnjgelhaaGreatMau
import Derived.Deep.LoopGhost
import Derived.Deep.RegionHeldLaw
set_option linter.unusedVariables false
set_option linter.unusedSimpArgs false
set_option maxRecDepth 100000
namespace Go.Proofs.YtdchjncnjgelhaaGreat.Lg
open Go.RowKit Go.Maps Go.ChangeMaps
open Gm (thn bl1 bdr)
theorem gT_nd (tb:List Tb):((gT tb).map (·.1)).Nodup:=by
 unfold gT
 suffices ∀ (tb:List Tb) (G:List Rq.SpL),(G.map (·.1)).Nodup->((tb.foldl (fun G p=>gW G p.1 p.2) G).map (·.1)).Nodup from this tb [] List.nodup_nil
 intro tb
 induction tb with
 | nil=>intro G h;exact h
 | cons p tb ih=>intro G h;exact ih _ (gW_nd h _ _)
theorem tabL_nil:tabL []=[]:=by unfold tabL srt;simp
section
variable {w w1 w2:World}{i0 c c':Nat}{fs:List ByteArray}{a a':Option Addr}{v:Value}
theorem table_0 (hm:Md w1 w2 w) (hr:RwT w1 w2 fs a a') (hn:fs.length<=60):Calls Tryz.prog 20 #[.slice none 0 0,.slice a fs.length c,.slice a' fs.length c',.int .i64 0] w fun e w'=>RwM w (tabL (tbM fs 0 [] fs.length)) (tbM fs 0 [] fs.length).length e w' :=
 ttable_any (v:=.slice none 0 0) (G:=[]) (k0:=0) hm hr (by rw[tabL_nil];exact Gm.Row.nil _ _ _) List.nodup_nil (by decide) hn (Nat.zero_le _)
theorem table_k (hm:Md w1 w2 w) (hr:RwT w1 w2 fs a a') (hn:fs.length<=60) (tb:List Tb) (h:Gm.Row w 40 2 v ((tabL (gT tb)).map Rq.encS)) (ht:tb.length<=255) (hi:i0<fs.length):Calls Tryz.prog 20 #[v,.slice a fs.length c,.slice a' fs.length c',.int .i64 ((i0:Int)+1)] w fun e w'=>RwM w (tabL (tbM fs (i0+1) (gT tb) fs.length)) (tbM fs (i0+1) (gT tb) fs.length).length e w':=by
 have:=ttable_any (c:=c) (c':=c') (k0:=i0+1) hm hr h (gT_nd tb) (by have:=gT_len tb;omega) hn hi
 rw[show((i0+1:Nat):Int)=(i0:Int)+1 by omega] at this
 exact this
theorem put_tb {tb:List Tb} {k:Nat} (h:Gm.Row w 40 2 v ((tabL (gT (tb.take k))).map Rq.encS)) (hk:k<tb.length) (ht:tb.length<=255):Calls Tryz.prog 22 #[v,.int .i64 tb[k].1,.int .i64 tb[k].2] w fun e w'=>RwM w (tabL (gT (tb.take (k+1)))) (gT (tb.take (k+1))).length e w':=by
 have hl:(gT (tb.take k)).length<=255:=by have:=gT_len (tb.take k);rw[List.length_take] at this;omega
 refine(tput_any (t:=tb[k].1) (x:=tb[k].2) h (by rw[tabL_len];omega)).mono ?_
 rintro e w' ⟨⟨a,c,he,hr,_⟩,hb⟩
 rw[put_tab (gT_nd _),← gT_succ hk] at he hr
 rw[tabL_len] at he hr
 exact⟨⟨a,c,he,hr⟩,hb⟩
end
section
variable {w:World}{ms:List Rm}{a0:Option Addr}{n0 c0:Nat}
set_option maxHeartbeats 8000000 in
theorem tables15_walk (hr:RsV w a0 n0 ms) (hs:∀ m∈ms,Small m) (hn:n0<=9223372036854775807) (check:Int):Calls Tryz.prog 4 #[.slice a0 n0 c0,.int .i64 check] w fun e w'=>e=.returned (.bool true)/\Below w.heap.size w w':=by
 have CL:Hid (Calls Tryz.prog 16 #[.slice a0 n0 c0,.int .i64 60] w fun e w'=>∃ l,e=.returned (.pointer (some ⟨l,0,none⟩))/\Lk w l [] 60 w'):=log_lk hr hs hn 60 (by omega)
 have CK:Hid (∀ wx,Calls Tryz.prog 21 #[] wx fun e w'=>e=.returned (.bool true)/\Below wx.heap.size wx w'):=fun wx=>Rq.awake15 wx
 have mixed:Tryz.prog.follows .mixedOrders=true:=by kernel_rfl
 clear hr hs hn
 go_enter Tryz.func4,Tryz.ntmps4
 go_wp2_with first
  | (go_at_call 16;refine CL.out.mono ?_;rintro e w1 ⟨l,rfl,HM⟩;have HM1:Hid (Lk w l [] 60 w1):=HM;clear HM)
  | (go_at_call 17;refine(Lk.recs HM1.out).mono ?_;rintro e w2 ⟨fs,a,c,a',c',rfl,y1,y2,y3⟩;have HY:Hid (fs.length<=60/\RwT w1 w2 fs a a'):=⟨y1,y2⟩;have HK3:Hid (Ky w w1 w2 l fs):=y3;clear y1 y2 y3)
  | (go_at_call 18;refine(Ky.tab0 HK3.out).mono ?_;rintro e w3 ⟨ax,cx,rfl,x3⟩;have HX3:Hid (Kx w w1 w2 l fs (.slice ax (tbM fs 0 [] fs.length).length cx) (tabL (tbM fs 0 [] fs.length)) w3):=x3;clear x3 HK3)
  | (go_at_call 20;refine(table_0 HX3.out.md HY.out.2 HY.out.1).mono ?_;rintro e w4 ⟨⟨at4,ct4,rfl,r4⟩,b4⟩;have HX4:Hid (Kx w w1 w2 l fs (.slice ax (tbM fs 0 [] fs.length).length cx) (tabL (tbM fs 0 [] fs.length)) w4/\Gm.Row w4 40 2 (.slice at4 (tbM fs 0 [] fs.length).length ct4) ((tabL (tbM fs 0 [] fs.length)).map Rq.encS)):=⟨HX3.out.below b4,r4⟩;clear r4 b4)
  | (go_at_call 19;refine(same_any (Rq.Sp.of_row HX4.out.1.row) (Rq.Sp.of_row HX4.out.2) (tabL_len _) (by have h1:=tbM_len fs 0 [] fs.length;have h2:=HY.out.1;rw[List.length_nil] at h1;omega)).mono ?_;rintro e w5 ⟨rfl,b5⟩;have HX5:Hid (Kx w w1 w2 l fs (.slice ax (tbM fs 0 [] fs.length).length cx) (tabL (tbM fs 0 [] fs.length)) w5):=HX4.out.1.below b5;clear b5)
 have HFr:Hid (∀ f∈fs,Frm f):=HX5.out.fit.frm
 have H60:Hid ((tbM fs 0 [] fs.length).length<=60):=by have h1:=tbM_len fs 0 [] fs.length;have h2:=HY.out.1;rw[List.length_nil] at h1;show _<=_;omega
 clear HX3 HX4 HM1
 by_cases hz:check<1
 ·have CT:Hid (Calls Tryz.prog 18 #[.pointer (some ⟨l,0,none⟩),.int .i64 check] w5 fun e w'=>∃ a c,e=.returned (.tuple #[.slice a (tbM fs 0 [] fs.length).length c,.int .i64 0])/\Gm.Row w' 40 2 (.slice a (tbM fs 0 [] fs.length).length c) ((tabL (tbM fs 0 [] fs.length)).map Rq.encS)/\Kx w w1 w2 l fs (.slice ax (tbM fs 0 [] fs.length).length cx) (tabL (tbM fs 0 [] fs.length)) w'):=HX5.out.tab fun W hW=>Table_zero hW (c:=check) (by omega)
  go_wp2_with first
   | (have:=B7.out;go_at_call 21;refine(CK.out _).mono ?_;rintro e w8 ⟨rfl,b8⟩)
   | (go_at_call 18;refine CT.out.mono ?_;rintro e w6 ⟨ay,cy,rfl,ry,k6⟩;have HX6:Hid (Kx w w1 w2 l fs (.slice ax (tbM fs 0 [] fs.length).length cx) (tabL (tbM fs 0 [] fs.length)) w6/\Gm.Row w6 40 2 (.slice ay (tbM fs 0 [] fs.length).length cy) ((tabL (tbM fs 0 [] fs.length)).map Rq.encS)):=⟨k6,ry⟩;clear k6 ry)
   | (go_at_call 19;refine(same_any (Rq.Sp.of_row HX6.out.1.row) (Rq.Sp.of_row HX6.out.2) (tabL_len _) (by have:=H60.out;omega)).mono ?_;rintro e w7 ⟨rfl,b7⟩;have B7:Hid (Below w.heap.size w w7):=thn HX6.out.1.bel b7;clear b7)
  go_ret
  exact⟨rfl,thn B7.out b8⟩
 ·by_cases hex:∃ i,∃ (hi:i<fs.length),pla fs i=check/\(recF fs[i]).s.kd=9
  ·obtain⟨i0,hi0,rfl,hk9⟩:=hex
   obtain⟨ht1,ht2⟩:=frm_tb (HFr.out _ (List.getElem_mem hi0)) hk9
   have CT:Hid (Calls Tryz.prog 18 #[.pointer (some ⟨l,0,none⟩),.int .i64 (pla fs i0)] w5 fun e w'=>∃ a c,e=.returned (.tuple #[.slice a (tbM fs (i0+1) (gT (recF fs[i0]).tb) fs.length).length c,.int .i64 0])/\Gm.Row w' 40 2 (.slice a (tbM fs (i0+1) (gT (recF fs[i0]).tb) fs.length).length c) ((tabL (tbM fs (i0+1) (gT (recF fs[i0]).tb) fs.length)).map Rq.encS)/\Kx w w1 w2 l fs (.slice ax (tbM fs 0 [] fs.length).length cx) (tabL (tbM fs 0 [] fs.length)) w'):=HX5.out.tab fun W hW=>Table_at hW hi0 hk9 ht1 ht2
   have HTb:Hid (∀ wx,Md w1 w2 wx->∀ v,Gm.Row wx 40 2 v ((tabL (gT (recF fs[i0]).tb)).map Rq.encS)->Calls Tryz.prog 20 #[v,.slice a fs.length c,.slice a' fs.length c',.int .i64 ((i0:Int)+1)] wx fun e w'=>RwM wx (tabL (tbM fs (i0+1) (gT (recF fs[i0]).tb) fs.length)) (tbM fs (i0+1) (gT (recF fs[i0]).tb) fs.length).length e w'):=fun wx hm v hv=>table_k hm HY.out.2 HY.out.1 _ hv ht1 hi0
   have HGy:Hid ((tbM fs (i0+1) (gT (recF fs[i0]).tb) fs.length).length<=400):=by have h1:=tbM_len fs (i0+1) (gT (recF fs[i0]).tb) fs.length;have h2:=gT_len (recF fs[i0]).tb;have h3:=HY.out.1;show _<=_;omega
   have HT1:Hid ((recF fs[i0]).tb.length<=255):=ht1
   have HK9:Hid ((rcd fs i0).kd=9):=by rw[← rcd_at hi0];exact hk9
   obtain⟨g,g',I,aT,cT,rfl,rfl,hat⟩:=HY.out.2.at_ i0 hi0
   have HAT:Hid (∀ wx,Md w1 w2 wx->wx.cell? ⟨g,i0*13,none⟩=some (.int .i64 9)/\wx.cell? ⟨g,i0*13+10,none⟩=some (.slice aT (recF fs[i0]).tb.length cT)/\wx.cell? ⟨g',i0,none⟩=some (.int .i64 (pla fs i0))/\∀ k (hk:k<(recF fs[i0]).tb.length),∃ b o,aT=some ⟨b,o,none⟩/\wx.cell? ⟨b,o+k*2,none⟩=some (.int .i64 (recF fs[i0]).tb[k].1)/\wx.cell? ⟨b,o+k*2+1,none⟩=some (.int .i64 (recF fs[i0]).tb[k].2)):=fun wx hm=>by
    obtain⟨q1,q2,q3⟩:=hat wx hm
    have q4:wx.cell? ⟨g,i0*13+0,none⟩=some (.int .i64 (rcd fs i0).kd):=q1 0 _ rfl
    rw[HK9.out] at q4
    exact⟨by simpa using q4,q1 10 _ rfl,q2,q3⟩
   have HPl:Hid (∀ i,i<i0->∀ wx,Md w1 w2 wx->∃ x,x≠pla fs i0/\wx.cell? ⟨g',i,none⟩=some (.int .i64 x)):=fun i hi wx hm=>by
    obtain⟨g2,g3,_,_,_,_,e3,hat2⟩:=HY.out.2.at_ i (by omega)
    cases e3
    exact⟨pla fs i,fun e=>by have:=pla_inj HFr.out (by omega) hi0 e;omega,(hat2 wx hm).2.1⟩
   clear hk9 ht1 ht2 hat
   generalize tbM fs (i0+1) (gT (recF fs[i0]).tb) fs.length=GY at *
   generalize (recF fs[i0]).tb=tb at *
   obtain⟨m,hm⟩:∃ m,fs.length=m:=⟨_,rfl⟩
   have Hm:Hid (fs.length=m):=hm
   have hi0m:i0<m:=by omega
   have HTb2:Hid (∀ wx,Md w1 w2 wx->∀ v,Gm.Row wx 40 2 v ((tabL (gT tb)).map Rq.encS)->Calls Tryz.prog 20 #[v,.slice (some ⟨g,0,none⟩) m c,.slice (some ⟨g',0,none⟩) m c',.int .i64 ((i0:Int)+1)] wx fun e w'=>RwM wx (tabL GY) GY.length e w'):=by rw[← hm];exact HTb.out
   generalize pla fs i0=x0 at *
   go_wp2_with first
    | (go_at_call 18;refine CT.out.mono ?_;rintro e w6 ⟨ay,cy,rfl,ry,k6⟩;have HX6:Hid (Kx w w1 w2 l fs (.slice ax (tbM fs 0 [] fs.length).length cx) (tabL (tbM fs 0 [] fs.length)) w6/\Gm.Row w6 40 2 (.slice ay GY.length cy) ((tabL GY).map Rq.encS)):=⟨k6,ry⟩;clear k6 ry)
   (try rw[hm])
   clear hm CT HTb
   go_loopg [12] m (fun k vi wr=>∃ i:Nat,vi=.int .i64 (i:Int)/\m-i<=k/\i<=i0/\Below w6.heap.size w6 wr)
   case atStart=>exact⟨0,rfl,by omega,Nat.zero_le _,Below.refl _ _⟩
   case round =>
    obtain⟨i,rfl,hk,him,hB⟩:=hrel
    rename World=>wo
    have HB:Hid (Below w6.heap.size w6 wo):=hB
    have hm60:m<=60:=by have:=HY.out.1;have:=Hm.out;omega
    have hltI:(i:Int)<(m:Int):=by omega
    have hMd:=HX6.out.1.md.bel hB
    have HMo:Hid (Md w1 w2 wo):=hMd
    by_cases hlt:i<i0
    ·obtain⟨x,hxn,rp⟩:=HPl.out i hlt wo hMd
     have hxb:(x==x0)=false:=by simpa using hxn
     clear hB hMd
     go_wp2
     go_roundg (m-(i+1))
     case measure=>omega
     case rel=>exact⟨i+1,by first |rfl |go_num,Nat.le_refl _,by omega,HB.out⟩
    ·obtain rfl:i=i0:=by omega
     obtain⟨r0,r10,rp,_⟩:=HAT.out wo hMd
     clear hB hMd
     go_wp2
     go_loopg [13,14] tb.length (fun k vb vk wr2=>∃ (k':Nat) (ab:Option Addr) (cb:Nat),vk=.int .i64 (k':Int)/\tb.length-k'<=k/\k'<=tb.length/\vb=.slice ab (gT (tb.take k')).length cb/\Gm.Row wr2 40 2 vb ((tabL (gT (tb.take k'))).map Rq.encS)/\Below wo.heap.size wo wr2)
     case atStart =>
      have e0:gT (tb.take 0)=[]:=by rw[List.take_zero];rfl
      exact⟨0,none,0,rfl,by omega,Nat.zero_le _,by rw[e0];rfl,by rw[e0,tabL_nil];exact Gm.Row.nil _ _ _,Below.refl _ _⟩
     case round =>
      clear r0 r10 rp
      obtain⟨k,ab,cb,rfl,hk1,hk2,rfl,hRw,hB⟩:=hrel
      have HB2:Hid (Below wo.heap.size wo wr/\Gm.Row wr 40 2 (.slice ab (gT (tb.take k)).length cb) ((tabL (gT (tb.take k))).map Rq.encS)):=⟨hB,hRw⟩
      clear hRw
      have h255:tb.length<=255:=HT1.out
      obtain⟨_,s10,_,hcs⟩:=HAT.out wr (HMo.out.bel hB)
      by_cases hl2:k<tb.length
      ·have hl2I:(k:Int)<(tb.length:Int):=by omega
       obtain⟨b,o,rfl,u0,u1⟩:=hcs k hl2
       have CP:Hid (∀ wx,Below wr.heap.size wr wx->Calls Tryz.prog 22 #[.slice ab (gT (tb.take k)).length cb,.int .i64 tb[k].1,.int .i64 tb[k].2] wx fun e w'=>RwM wx (tabL (gT (tb.take (k+1)))) (gT (tb.take (k+1))).length e w'):=fun wx hb=>put_tb (HB2.out.2.bel hb) hl2 h255
       have HC2:Hid (∀ wx,Below wo.heap.size wo wx->wx.cell? ⟨g,i*13+10,none⟩=some (.slice (some ⟨b,o,none⟩) tb.length cT)/\wx.cell? ⟨b,o+k*2,none⟩=some (.int .i64 tb[k].1)/\wx.cell? ⟨b,o+k*2+1,none⟩=some (.int .i64 tb[k].2)):=fun wx hb=>by
        obtain⟨_,z10,_,hz⟩:=HAT.out wx (HMo.out.bel hb)
        obtain⟨b',o',e,z0,z1⟩:=hz k hl2
        cases e
        exact⟨z10,z0,z1⟩
       have d10:wr.drew.cell? ⟨g,i*13+10,none⟩=some (.slice (some ⟨b,o,none⟩) tb.length cT):=s10
       have d0:wr.drew.cell? ⟨b,o+k*2,none⟩=some (.int .i64 tb[k].1):=u0
       have d1:wr.drew.cell? ⟨b,o+k*2+1,none⟩=some (.int .i64 tb[k].2):=u1
       clear hcs hB
       generalize tb[k]=tk at *
       obtain⟨t1,t2⟩:=tk
       dsimp only at u0 u1 d0 d1 CP HC2
       go_wp2
       go_region_held_law (fun wx=>wx.cell? ⟨g,i*13+10,none⟩=some (.slice (some ⟨b,o,none⟩) tb.length cT)/\wx.cell? ⟨b,o+k*2,none⟩=some (.int .i64 t1)/\wx.cell? ⟨b,o+k*2+1,none⟩=some (.int .i64 t2)) (first |exact⟨s10,u0,u1⟩ |exact⟨d10,d0,d1⟩ |exact Y5.out) ((go_at_call 22;refine(CP.out _ (bdr (Below.refl _ _) 1)).mono ?_;rintro e w7 ⟨⟨a5,c5,rfl,r5⟩,b5⟩;have X5:Hid (Gm.Row w7 40 2 (.slice a5 (gT (tb.take (k+1))).length c5) ((tabL (gT (tb.take (k+1)))).map Rq.encS)/\Below wo.heap.size wo w7):=⟨r5,thn HB2.out.1 (thn (bdr (Below.refl _ _) 1) b5)⟩;have Y5:Hid (w7.cell? ⟨g,i*13+10,none⟩=some (.slice (some ⟨b,o,none⟩) tb.length cT)/\w7.cell? ⟨b,o+k*2,none⟩=some (.int .i64 t1)/\w7.cell? ⟨b,o+k*2+1,none⟩=some (.int .i64 t2)):=HC2.out _ X5.out.2;clear r5 b5))
       go_wp2
       go_roundg (tb.length-(k+1))
       case measure=>omega
       case rel=>exact⟨k+1,a5,c5,by first |rfl |go_num,Nat.le_refl _,by omega,rfl,X5.out.1,X5.out.2⟩
      ·have hl2I:¬ (k:Int)<(tb.length:Int):=by omega
       have e9:tb.take k=tb:=List.take_of_length_le (by omega)
       rw[e9] at HB2 ⊢
       have hw1:IntKind.i64.wrap ((i:Int)+1)=(i:Int)+1:=by rw[IntKind.wrap_i64];omega
       have CTt:Hid (Calls Tryz.prog 20 #[.slice ab (gT tb).length cb,.slice (some ⟨g,0,none⟩) m c,.slice (some ⟨g',0,none⟩) m c',.int .i64 ((i:Int)+1)] wr fun e w'=>RwM wr (tabL GY) GY.length e w'):=HTb2.out _ (HMo.out.bel hB) _ HB2.out.2
       have HYr:Hid (Gm.Row wr 40 2 (.slice ay GY.length cy) ((tabL GY).map Rq.encS)/\Below w.heap.size w wr):=⟨HX6.out.2.bel (thn HB.out hB),thn HX6.out.1.bel (thn HB.out hB)⟩
       clear hcs hB
       go_wp2_with first
        | (have:=B8.out;go_at_call 21;refine(CK.out _).mono ?_;rintro e w9 ⟨rfl,b9⟩)
        | (go_at_call 20;refine CTt.out.mono ?_;rintro e w7 ⟨⟨a7,c7,rfl,r7⟩,b7⟩;have HZ:Hid (Gm.Row w7 40 2 (.slice ay GY.length cy) ((tabL GY).map Rq.encS)/\Gm.Row w7 40 2 (.slice a7 GY.length c7) ((tabL GY).map Rq.encS)/\Below w.heap.size w w7):=⟨HYr.out.1.bel b7,r7,thn HYr.out.2 b7⟩;clear r7 b7)
        | (go_at_call 19;refine(same_any (Rq.Sp.of_row HZ.out.1) (Rq.Sp.of_row HZ.out.2.1) (tabL_len _) (by have:=HGy.out;omega)).mono ?_;rintro e w8 ⟨rfl,b8⟩;have B8:Hid (Below w.heap.size w w8):=thn HZ.out.2.2 b8;clear b8)
       go_ret
       exact⟨rfl,thn B8.out b9⟩
  ·have CT:Hid (Calls Tryz.prog 18 #[.pointer (some ⟨l,0,none⟩),.int .i64 check] w5 fun e w'=>e=.returned (.tuple #[.slice none 0 0,.int .i64 20])/\Kx w w1 w2 l fs (.slice ax (tbM fs 0 [] fs.length).length cx) (tabL (tbM fs 0 [] fs.length)) w'):=by
    by_cases hpl:∃ i,∃ (hi:i<fs.length),pla fs i=check
    ·obtain⟨i,hi,rfl⟩:=hpl
     exact HX5.out.tabn fun W hW=>Table_kd hW hi fun h9=>hex ⟨i,hi,rfl,h9⟩
    ·exact HX5.out.tabn fun W hW=>Table_no hW (by omega) (no_bnd fun i hi e=>hpl ⟨i,hi,e⟩)
   have HNo:Hid (∀ i,i<fs.length->pla fs i=check->(rcd fs i).kd≠9):=fun i hi e h9=>hex ⟨i,hi,e,by rw[rcd_at hi];exact h9⟩
   clear hex
   obtain⟨m,hm⟩:∃ m,fs.length=m:=⟨_,rfl⟩
   have Hm:Hid (fs.length=m):=hm
   go_wp2_with first
    | (go_at_call 18;refine CT.out.mono ?_;rintro e w6 ⟨rfl,k6⟩;have HX6:Hid (Kx w w1 w2 l fs (.slice ax (tbM fs 0 [] fs.length).length cx) (tabL (tbM fs 0 [] fs.length)) w6):=k6;clear k6)
   (try rw[hm])
   clear hm CT
   go_loopg [12] m (fun k vi wr=>∃ i:Nat,vi=.int .i64 (i:Int)/\m-i<=k/\i<=m/\Below w6.heap.size w6 wr)
   case atStart=>exact⟨0,rfl,by omega,by omega,Below.refl _ _⟩
   case round =>
    obtain⟨i,rfl,hk,him,hB⟩:=hrel
    have HB:Hid (Below w6.heap.size w6 wr):=hB
    have hm60:m<=60:=by have:=HY.out.1;have:=Hm.out;omega
    by_cases hlt:i<m
    ·have hltI:(i:Int)<(m:Int):=by omega
     have hif:i<fs.length:=by rw[Hm.out];exact hlt
     obtain⟨g,g',I,aT,cT,rfl,rfl,hat⟩:=HY.out.2.at_ i hif
     obtain⟨q1,rp,_⟩:=hat wr (HX6.out.md.bel hB)
     have r0:wr.cell? ⟨g,i*13,none⟩=some (.int .i64 (rcd fs i).kd):=by simpa using q1 0 _ rfl
     have hno:=HNo.out i hif
     clear q1 hat hB
     generalize pla fs i=x at *
     generalize (rcd fs i).kd=kd at *
     by_cases hxc:x=check
     ·subst hxc
      have hk9:(kd==9)=false:=by simpa using hno rfl
      go_wp2
      go_roundg (m-(i+1))
      case measure=>omega
      case rel=>exact⟨i+1,by first |rfl |go_num,Nat.le_refl _,by omega,HB.out⟩
     ·have hxb:(x==check)=false:=by simpa using hxc
      go_wp2
      go_roundg (m-(i+1))
      case measure=>omega
      case rel=>exact⟨i+1,by first |rfl |go_num,Nat.le_refl _,by omega,HB.out⟩
    ·obtain rfl:i=m:=by omega
     have hltI:¬ (i:Int)<(i:Int):=by omega
     have B7:Hid (Below w.heap.size w wr):=thn HX6.out.bel hB
     go_wp2_with first
      | (have:=B7.out;go_at_call 21;refine(CK.out _).mono ?_;rintro e w8 ⟨rfl,b8⟩)
     go_ret
     exact⟨rfl,thn B7.out b8⟩
end
end Go.Proofs.YtdchjncnjgelhaaGreat.Lg
