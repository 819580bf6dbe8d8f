import Derived.Test.YtdchjncnjgelhaaGreatMam
import Derived.Test.YtdchjncnjgelhaaGreatMah
set_option linter.unusedVariables false
set_option linter.unusedSimpArgs false
set_option maxRecDepth 100000
namespace Go.Proofs.YtdchjncnjgelhaaGreat
open Go.RowKit Go.Maps Go.ChangeMaps
def encQ (q:Sec):ByteArray:=pad (secB q)
def zsN (n:Nat):ByteArray:=⟨Array.replicate n 0⟩
theorem pad_app (s:ByteArray):pad s=s++zsN (64-s.size):=by apply ByteArray.ext;simp[pad,zsN,ByteArray.data_append]
theorem encQ_eq (q:Sec):encQ q=Pk.beS q.1 4++(Pk.beS q.2.size 2++(q.2++zsN (64-(secB q).size))):=by
 unfold encQ
 rw[pad_app]
 conv=>lhs;lhs;unfold secB
 rw[ByteArray.append_assoc,ByteArray.append_assoc]
theorem encQ_size (q:Sec) (h:q.2.size<=58):(encQ q).size=64:=pad_size (by rw[secB_size];omega)
theorem enc_zero:encQ (0,⟨#[]⟩)=zs64:=by decide +kernel
def tail1 (q:Sec):ByteArray:=Pk.beS q.2.size 2++(q.2++zsN (64-(secB q).size))
def tail2 (q:Sec):ByteArray:=q.2++zsN (64-(secB q).size)
theorem enc_run {q:Sec} (h1:q.1<4294967296):nN (encQ q,0) 4=(q.1:Int)/\sN (encQ q,0) 4=(tail1 q,0):=by
 rw[encQ_eq]
 have:=sN_cat (n:=(q.1:Int)) (k:=4) (j:=4) (b:=tail1 q) rfl (by omega) (by omega) (by omega) (by have:Pk.limI 4=4294967296:=rfl;omega)
 rw[Int.toNat_natCast] at this
 exact this
theorem enc_many {q:Sec} (h2:q.2.size<=58):nN (tail1 q,0) 2=(q.2.size:Int)/\sN (tail1 q,0) 2=(tail2 q,0):=by
 have:=sN_cat (n:=(q.2.size:Int)) (k:=2) (j:=2) (b:=tail2 q) rfl (by omega) (by omega) (by omega) (by have:Pk.limI 2=65536:=rfl;omega)
 rw[Int.toNat_natCast] at this
 exact this
theorem enc_raw (q:Sec):(Pk.rdRaw (tail2 q) 0 (q.2.size:Int)).1=q.2:=by
 have:=Pk.rdRaw_app q.2 (zsN (64-(secB q).size))
 unfold tail2
 rw[this]
theorem np_none (k:Nat):@np ⟨⟨fun _=>none⟩⟩ k:=fun e=>e rfl
theorem npv_none (v:Value):@npv ⟨⟨fun _=>none⟩⟩ v:=fun _ _ e=>e rfl
theorem Ltp_none (w:World):@Ltp ⟨⟨fun _=>none⟩⟩ w:=fun _ _ e=>nomatch e
theorem Ow_none {B k:Nat} (h:B<=k):@Ow ⟨⟨fun _=>none⟩⟩ B k:=@Ow.mk ⟨⟨fun _=>none⟩⟩ B k h (np_none k)
structure Sn (w0 wx:World) (b4:Nat) (acc:ByteArray):Prop where
 bel:Below w0.heap.size w0 wx
 bd:∃ pp v,wx.heap[b4]?=some (.cells #[pp,v] 85 (0,0))/\(pp=.pointer none∨pp=.pointer (some ⟨b4,0,none⟩))/\wx.ownsRowF w0.heap.size 5 1 v acc.size (Lib.strCells acc)
 ge:w0.heap.size<=b4
section
variable {w0 wx wy:World}{b4:Nat}{acc:ByteArray}
theorem Sn.below (h:Sn w0 wx b4 acc) (hb:Below wx.heap.size wx wy):Sn w0 wy b4 acc:=by
 obtain⟨pp,v,h1,h2,h3⟩:=h.bd
 exact⟨thn h.bel hb,⟨pp,v,(hb.block b4 (lt_of_some h1)).trans h1,h2,ownF_below h3 hb⟩,h.ge⟩
end
section
variable {w0 wx:World}{b4:Nat}{acc:ByteArray}
theorem Sn.drew (h:Sn w0 wx b4 acc):Sn w0 wx.drew b4 acc:=h.below ((Below.refl _ _).drew)
end
section
variable {w0 wx wy:World}{b4:Nat}{acc:ByteArray}
theorem Sn.off {br:Nat} {s:ByteArray} {e:Int} (h:Sn w0 wx b4 acc) (hr:Pk.isRd wx br s e) (o:Pk.Off br wx wy) (hC:w0.heap.size<=br):Sn w0 wy b4 acc:=by
 obtain⟨pp,v,h1,h2,h3⟩:=h.bd
 have hrd:wx.heap[br]?=some (.cells #[.string s,.int .i64 e] 180):=hr
 refine⟨h.bel.trans (o.below hC h.bel.size),⟨pp,v,(o.block b4 (lt_of_some h1) (fun e=>?_)).trans h1,h2,ownF_of h3 (fun j cur fz e=>(o.block j (lt_of_some e) (fun e2=>?_)).trans e)⟩,h.ge⟩
 ·subst e;rw[hrd] at h1;cases h1
 ·subst e2;rw[hrd] at e;cases e
end
section
variable {w0 wx:World}{b4:Nat}{acc:ByteArray}
theorem Sn.write (h:Sn w0 wx b4 acc) (s:ByteArray) (hs:acc.size+s.size<=1000000):Calls Tryz.prog 64 #[.pointer (some ⟨b4,0,none⟩),.string s] wx fun e w'=>e=.returned (.tuple #[.int .i64 s.size,.nilIface])/\Sn w0 w' b4 (acc++s):=by
 obtain⟨pp,v,h1,h2,h3⟩:=h.bd
 letI:Inhabited PrSet:=⟨⟨fun _=>none⟩⟩
 refine(Bo_WriteString h1 h2 h3 s (by omega) (Ow_none h.ge) h.bel.size (npv_none _) (Ltp_none _)).mono ?_
 rintro e w' ⟨⟨v',q1,q2,_⟩,rfl,k1⟩
 refine⟨rfl,h.bel.trans k1.bel,⟨_,v',q1,Or.inr rfl,?_⟩,h.ge⟩
 have e2:Lib.strCells (acc++s)=Lib.strCells acc++Lib.strCells s:=by
  rw[Lib.strCells_eq,Lib.strCells_eq,Lib.strCells_eq,← Lib.byteCells_append,ByteArray.data_append,Array.toList_append]
 rw[bsz,e2]
 exact q2
end
section
variable {w0 wx:World}{b4:Nat}{acc:ByteArray}
theorem Sn.string (h:Sn w0 wx b4 acc):Calls Tryz.prog 66 #[.pointer (some ⟨b4,0,none⟩)] wx fun e w'=>e=.returned (.string acc)/\Below w0.heap.size w0 w':=by
 obtain⟨pp,v,h1,h2,h3⟩:=h.bd
 letI:Inhabited PrSet:=⟨⟨fun _=>none⟩⟩
 refine(Bo_String acc h1 h3 h.bel.size (npv_none _)).mono ?_
 rintro e w' ⟨rfl,_,_,k1,_⟩
 exact⟨rfl,h.bel.trans k1.bel⟩
end
section
variable {l:Nat}
theorem stK_size (Q:Nat->Sec) (run:Nat):∀ n i least,(∀ j,i<=j->j<i+n->(Q j).2.size<=58)->(stK Q run n i least).size<=58*n:=by
 intro n
 induction n with
 | zero=>intro i l _;rw[stK,nilz];omega
 | succ n ih =>
  intro i l h
  have h0:=h i (Nat.le_refl _) (by omega)
  have:=ih (i+1) (Q i).1 (fun j a b=>h j (by omega) (by omega))
  rw[stK]
  repeat' split
  ·rw[nilz];omega
  ·omega
  ·rw[bsz];omega
end
section
variable [Inhabited PrSet]{B l k:Nat}{w wx:World}{b4:Nat}{acc:ByteArray}{S:Dk}{R:Lr}
set_option maxHeartbeats 4000000 in
theorem standing_any (h:Lx B w l k S R) {bs sc:Nat} (hbs:R.base=(bs:Int)) (hsc:R.secs=(sc:Int)) (run:Nat) (hrun:R.run=(run:Int)) (hsc2:sc<=8000) (hfit:bs+sc<=S.n) (hu:S.up=true)
  (Q:Nat->Sec) (hQ:∀ i,i<sc->S.now (bs+i)=encQ (Q i)/\(Q i).1<4294967296/\(Q i).2.size<=58) :
  Calls Tryz.prog 30 #[.pointer (some ⟨l,0,none⟩)] w fun e w'=>e=.returned (.tuple #[.string (stand Q run sc),.int .i64 0])/\Below w.heap.size w w':=by
 have hn2:=h.d.q.ok.n2
 have HL:Hid (∀ wx,Below w.heap.size w wx->Lx B wx l k S R):=fun wx hb=>h.below hb
 have CR:Hid (∀ wx (i:Nat),i<sc->Below w.heap.size w wx->Calls Tryz.prog 61 #[.pointer (some ⟨R.db,0,none⟩),.int .i64 ((bs:Int)+(i:Int))] wx fun e w'=>e=.returned (.tuple #[.string (encQ (Q i)),.int .i64 0])/\Below wx.heap.size wx w'):=fun wx i hi hb=>by
  have:=(h.below hb).d.read hu (bs+i) (by omega)
  rw[(hQ i hi).1,show((bs+i:Nat):Int)=(bs:Int)+(i:Int) by omega] at this
  exact this
 have HZ:Hid (∀ i,i<sc->(encQ (Q i)).size<=140737488351232/\nN (encQ (Q i),0) 4=((Q i).1:Int)/\sN (encQ (Q i),0) 4=(tail1 (Q i),0)/\nN (tail1 (Q i),0) 2=((Q i).2.size:Int)/\sN (tail1 (Q i),0) 2=(tail2 (Q i),0)/\(Pk.rdRaw (tail2 (Q i)) 0 ((Q i).2.size:Int)).1=(Q i).2/\(Q i).2.size<=58/\(Q i).1<4294967296):=fun i hi=>by
  obtain⟨_,h1,h2⟩:=hQ i hi
  exact⟨by rw[encQ_size _ h2];omega,(enc_run h1).1,(enc_run h1).2,(enc_many h2).1,(enc_many h2).2,enc_raw _,h2,h1⟩
 have HN:Hid (Sn w (w.alloc (.cells #[.pointer none,.slice none 0 0] 85)) w.heap.size ⟨#[]⟩):=⟨(Below.refl _ _).alloc (Nat.le_refl _) _,⟨_,_,(MapKept.heap_alloc w _).1,Or.inl rfl,World.ownsRowF_nil _ _ _ _⟩,Nat.le_refl _⟩
 have HT:Hid (∀ i least,i<=sc->(stK Q run (sc-i) i least).size<=58*(sc-i)):=fun i least hi=>stK_size Q run (sc-i) i least (fun j h1 h2=>(hQ j (by omega)).2.2)
 have HS0:Hid (stand Q run sc=⟨#[]⟩++stK Q run (sc-0) 0 1):=(by rw[nil_app];rfl:stand Q run sc=⟨#[]⟩++stK Q run (sc-0) 0 1)
 have hZ0:(stand Q run sc).size<=500000:=by
  have:=stK_size Q run sc 0 1 (fun j h1 h2=>(hQ j (by omega)).2.2)
  have e:stand Q run sc=stK Q run sc 0 1:=rfl
  rw[e];omega
 have c3:=(h.below ((Below.refl _ _).alloc (Nat.le_refl _) (.cells #[.pointer none,.slice none 0 0] 85))).g.c3
 rw[hsc] at c3
 have hb5:(0:Int)<=(bs:Int):=by omega
 have hb6:(bs:Int)+(sc:Int)<=8192:=by omega
 have Hrun:Hid _:=hrun
 have Hbs:Hid _:=hbs
 have Hs2:sc<=8000:=hsc2
 clear h hQ hsc hfit hn2 hu hbs hrun
 generalize hST:stand Q run sc=ST at *
 clear hST
 go_enter Tryz.func30,Tryz.ntmps30
 go_wp2
 go_loopw [5,16] (fun lv ix wr=>∃ (i:Nat) (acc:ByteArray) (least:Nat),i<=sc/\lv=.int .i64 (least:Int)/\ix=.int .i64 (i:Int)/\Sn w wr w.heap.size acc/\least<4294967296/\ST=acc++stK Q run (sc-i) i least) (fun _ ix _=>sc-(intOf ix).toNat)
 case atStart=>exact⟨0,⟨#[]⟩,1,Nat.zero_le _,rfl,rfl,HN.out,by omega,HS0.out⟩
 case round =>
  obtain⟨i,acc,least,hi,rfl,rfl,hS0,hle,hE⟩:=hrel
  by_cases hlt:i<sc
  ·have hS:=hS0.drew
   clear hS0
   obtain⟨n1,hn1⟩:∃ n1,sc-i=n1+1:=⟨sc-i-1,by omega⟩
   have hEq:ST=acc++(if(Q i).1<least∨run<(Q i).1 then⟨#[]⟩ else if(Q i).2.size<58 then(Q i).2 else(Q i).2++stK Q run n1 (i+1) (Q i).1):=by rw[hE,hn1,stK]
   have HE:Hid (ST=acc++(if(Q i).1<least∨run<(Q i).1 then⟨#[]⟩ else if(Q i).2.size<58 then(Q i).2 else(Q i).2++stK Q run n1 (i+1) (Q i).1)):=hEq
   have Hn1:Hid (sc-(i+1)=n1):=(by omega:sc-(i+1)=n1)
   clear hEq hn1
   have hacc:acc.size<=500000:=by rw[hE,bsz] at hZ0;omega
   obtain⟨hcz,z1,z2,z3,z4,z5,z6,z7⟩:=HZ.out i hlt
   have C0:Hid (∀ wx,Below w.heap.size w wx->Calls Tryz.prog 61 #[.pointer (some ⟨R.db,0,none⟩),.int .i64 ((bs:Int)+(i:Int))] wx fun e w'=>e=.returned (.tuple #[.string (encQ (Q i)),.int .i64 0])/\Below wx.heap.size wx w'):=fun wx hb=>CR.out wx i hlt hb
   have C1:Hid (∀ wx b,RdS wx b (encQ (Q i),0)->Calls Tryz.prog 63 #[.pointer (some ⟨b,0,none⟩),.int .i64 4] wx fun r w'=>r=.returned (.int .i64 ((Q i).1:Int))/\RdS w' b (tail1 (Q i),0)/\Pk.Off b wx w'):=fun wx b h=>by
    have:=h.num 4
    rw[z1,z2] at this
    exact this
   have C2:Hid (∀ wx b,RdS wx b (tail1 (Q i),0)->Calls Tryz.prog 63 #[.pointer (some ⟨b,0,none⟩),.int .i64 2] wx fun r w'=>r=.returned (.int .i64 ((Q i).2.size:Int))/\RdS w' b (tail2 (Q i),0)/\Pk.Off b wx w'):=fun wx b h=>by
    have:=h.num 2
    rw[z3,z4] at this
    exact this
   have C3:Hid (∀ wx b,RdS wx b (tail2 (Q i),0)->Calls Tryz.prog 65 #[.pointer (some ⟨b,0,none⟩),.int .i64 ((Q i).2.size:Int)] wx fun r w'=>r=.returned (.string (Q i).2)/\Pk.isRd w' b (Pk.rdRaw (tail2 (Q i)) 0 ((Q i).2.size:Int)).2.1 (Pk.rdRaw (tail2 (Q i)) 0 ((Q i).2.size:Int)).2.2/\Pk.Off b wx w'):=fun wx b h=>by
    have:=h.raw ((Q i).2.size:Int)
    dsimp only at this
    rw[z5] at this
    exact this
   clear z1 z2 z3 z4 z5 hE CR HZ HN HS0 HT hZ0
   generalize encQ (Q i)=c at *
   generalize tail1 (Q i)=c1 at *
   generalize tail2 (Q i)=c2 at *
   generalize hr:(Q i).1=r at *
   generalize hp:(Q i).2=p at *
   clear hr hp
   have hap:acc.size+p.size<=1000000:=by omega
   have hi2:(i:Int)<(sc:Int):=by omega
   have hw2:IntKind.i64.wrap ((bs:Int)+(i:Int))=(bs:Int)+(i:Int):=by rw[IntKind.wrap_i64];omega
   have d1:=(HL.out _ hS.bel).g.c1
   have d2:=(HL.out _ hS.bel).g.c2
   rw[Hbs.out] at d2
   obtain⟨ri,HR⟩:∃ ri:Int,Hid ((r:Int)=ri):=⟨_,rfl⟩
   obtain⟨mi,HM⟩:∃ mi:Int,Hid ((p.size:Int)=mi):=⟨_,rfl⟩
   obtain⟨li,HI⟩:∃ li:Int,Hid ((least:Int)=li):=⟨_,rfl⟩
   rw[HR.out] at C1
   rw[HM.out] at C2 C3
   rw[HI.out]
   go_wp2
   go_region_held3 (fun W=>W.cell? ⟨l,1,none⟩=some (.pointer (some ⟨R.db,0,none⟩))/\W.cell? ⟨l,2,none⟩=some (.int .i64 (bs:Int))) (first |exact⟨keep1,keep2⟩ |exact⟨d1,d2⟩ |go_keep)
    ((go_at_call 61;refine(C0.out _ ?_).mono ?_;exact hS.bel;rintro e wA ⟨rfl,bA⟩;have hn:=hS.below bA;clear hS;have hS:=hn;clear hn;have keep1:=(HL.out _ hS.bel).g.c1;have keep2:=(HL.out _ hS.bel).g.c2;rw[Hbs.out] at keep2))
   have hge:w.heap.size<=wA.heap.size:=hS.bel.size
   clear keep1 keep2 d1 d2
   by_cases h1:ri<li
   ·have t1:ri<li:=h1
    go_wp2_with (first
     | (go_at_call 62;refine(Sm.Read_any _ _).mono ?_;rintro e w1 ⟨rfl,r1,b1⟩;have H1:=hS.below b1;clear hS;have R1:RdS w1 wA.heap.size (c,0):=⟨r1,hcz⟩;have k4:=(HL.out _ H1.bel).g.c4;clear r1)
     | (go_at_call 63;refine(C1.out _ _ R1).mono ?_;rintro e w2 ⟨rfl,R2,o2⟩;have H2:=H1.off R1.rd o2 hge;clear H1 R1;have k4:=(HL.out _ H2.bel).g.c4)
     | (go_at_call 63;refine(C2.out _ _ R2).mono ?_;rintro e w3 ⟨rfl,R3,o3⟩;have H3:=H2.off R2.rd o3 hge;clear H2 R2;have k4:=(HL.out _ H3.bel).g.c4)
     | (go_at_call 66;refine(H3.string).mono ?_;rintro e w4 ⟨rfl,b4⟩))
    go_ret2
    have q1:=HR.out
    have q2:=HM.out
    have q3:=HI.out
    have q4:=Hrun.out
    have:=HE.out
    rw[if_pos (Or.inl (by omega)),app_nil] at this
    rw[this]
    exact⟨rfl,b4⟩
   by_cases h2:R.run<ri
   ·have t1:¬ ri<li:=h1
    have t2:R.run<ri:=h2
    go_wp2_with (first
     | (go_at_call 62;refine(Sm.Read_any _ _).mono ?_;rintro e w1 ⟨rfl,r1,b1⟩;have H1:=hS.below b1;clear hS;have R1:RdS w1 wA.heap.size (c,0):=⟨r1,hcz⟩;have k4:=(HL.out _ H1.bel).g.c4;clear r1)
     | (go_at_call 63;refine(C1.out _ _ R1).mono ?_;rintro e w2 ⟨rfl,R2,o2⟩;have H2:=H1.off R1.rd o2 hge;clear H1 R1;have k4:=(HL.out _ H2.bel).g.c4)
     | (go_at_call 63;refine(C2.out _ _ R2).mono ?_;rintro e w3 ⟨rfl,R3,o3⟩;have H3:=H2.off R2.rd o3 hge;clear H2 R2;have k4:=(HL.out _ H3.bel).g.c4)
     | (go_at_call 66;refine(H3.string).mono ?_;rintro e w4 ⟨rfl,b4⟩))
    go_ret2
    have q1:=HR.out
    have q2:=HM.out
    have q3:=HI.out
    have q4:=Hrun.out
    have:=HE.out
    rw[if_pos (Or.inr (by omega)),app_nil] at this
    rw[this]
    exact⟨rfl,b4⟩
   by_cases h3:mi<58
   ·have t1:¬ ri<li:=h1
    have t2:¬ R.run<ri:=h2
    have t3:¬ (58:Int)<mi:=by have:=HM.out;omega
    have t4:mi<58:=h3
    go_wp2_with (first
     | (go_at_call 62;refine(Sm.Read_any _ _).mono ?_;rintro e w1 ⟨rfl,r1,b1⟩;have H1:=hS.below b1;clear hS;have R1:RdS w1 wA.heap.size (c,0):=⟨r1,hcz⟩;have k4:=(HL.out _ H1.bel).g.c4;clear r1)
     | (go_at_call 63;refine(C1.out _ _ R1).mono ?_;rintro e w2 ⟨rfl,R2,o2⟩;have H2:=H1.off R1.rd o2 hge;clear H1 R1;have k4:=(HL.out _ H2.bel).g.c4)
     | (go_at_call 63;refine(C2.out _ _ R2).mono ?_;rintro e w3 ⟨rfl,R3,o3⟩;have H3:=H2.off R2.rd o3 hge;clear H2 R2;have k4:=(HL.out _ H3.bel).g.c4)
     | (go_at_call 65;refine(C3.out _ _ R3).mono ?_;rintro e w4 ⟨rfl,R4,o4⟩;have H4:=H3.off R3.rd o4 hge;clear H3 R3)
     | (go_at_call 64;refine(H4.write p hap).mono ?_;rintro e w5 ⟨rfl,H5⟩;clear H4)
     | (go_at_call 66;refine(H5.string).mono ?_;rintro e w4 ⟨rfl,b4⟩))
    go_ret2
    have q1:=HR.out
    have q2:=HM.out
    have q3:=HI.out
    have q4:=Hrun.out
    have:=HE.out
    rw[if_neg (by omega),if_pos (by omega)] at this
    rw[this]
    exact⟨rfl,b4⟩
   have t1:¬ ri<li:=h1
   have t2:¬ R.run<ri:=h2
   have t3:¬ (58:Int)<mi:=by have:=HM.out;omega
   have t4:¬ mi<58:=h3
   go_wp2_with (first
    | (go_at_call 62;refine(Sm.Read_any _ _).mono ?_;rintro e w1 ⟨rfl,r1,b1⟩;have H1:=hS.below b1;clear hS;have R1:RdS w1 wA.heap.size (c,0):=⟨r1,hcz⟩;have k4:=(HL.out _ H1.bel).g.c4;clear r1)
    | (go_at_call 63;refine(C1.out _ _ R1).mono ?_;rintro e w2 ⟨rfl,R2,o2⟩;have H2:=H1.off R1.rd o2 hge;clear H1 R1;have k4:=(HL.out _ H2.bel).g.c4)
    | (go_at_call 63;refine(C2.out _ _ R2).mono ?_;rintro e w3 ⟨rfl,R3,o3⟩;have H3:=H2.off R2.rd o3 hge;clear H2 R2;have k4:=(HL.out _ H3.bel).g.c4)
    | (go_at_call 65;refine(C3.out _ _ R3).mono ?_;rintro e w4 ⟨rfl,R4,o4⟩;have H4:=H3.off R3.rd o4 hge;clear H3 R3)
    | (go_at_call 64;refine(H4.write p hap).mono ?_;rintro e w5 ⟨rfl,H5⟩;clear H4)
    | (go_at_call 66;refine(H5.string).mono ?_;rintro e w4 ⟨rfl,b4⟩))
   go_roundw
   case rel =>
    have q1:=HR.out
    have q2:=HM.out
    have q3:=HI.out
    have q4:=Hrun.out
    have:=HE.out
    rw[if_neg (by omega),if_neg (by omega),← ByteArray.append_assoc] at this
    refine⟨i+1,acc++p,r,hlt,?_,?_,H5,?_,?_⟩
    ·rw[HR.out]
    ·go_num
    ·omega
    ·rw[this,Hn1.out]
   case measure=>simp[intOf];omega
  ·obtain rfl:i=sc:=by omega
   have hi2:¬ (i:Int)<(i:Int):=by omega
   have HE:Hid (ST=acc):=(by rw[hE,Nat.sub_self,stK,app_nil]:ST=acc)
   clear hE
   go_wp2_with (go_at_call 66;refine(hS0.string).mono ?_;rintro e w4 ⟨rfl,b4⟩)
   go_ret2
   rw[HE.out]
   exact⟨rfl,b4⟩
end
section
variable [Inhabited PrSet]
def opR (db bs sc run:Nat) (fs:List ByteArray):Lr:=⟨db,(bs:Int),(sc:Int),(run:Int),cat fs,plc 1 fs,((cat fs).size:Int)+1,false⟩
end
section
variable {l:Nat}
theorem moved_plc (fs:List ByteArray):∀ a:Nat,moved 1 (plc a fs)=plc (a+1) fs:=by
 induction fs with
 | nil=>intro a;rfl
 | cons f l ih =>
  intro a
  have:=ih (a+f.size)
  simp only[moved,plc,List.map_cons] at this ⊢
  rw[this,show a+f.size+1=a+1+f.size by omega,show(1:Int)+(a:Int)=((a+1:Nat):Int) by omega]
end
section
variable {l:Nat}
theorem plc_bd (fs:List ByteArray) (a n:Nat) (h:a+(cat fs).size<=n):∀ x∈plc a fs,0<=x/\x<=(n:Int):=by
 induction fs generalizing a with
 | nil=>intro x hx;cases hx
 | cons f l ih =>
  rw[cat,bsz] at h
  intro x hx
  simp only[plc,List.mem_cons] at hx
  rcases hx with rfl |hx
  ·omega
  ·exact ih (a+f.size) (by omega) x hx
end
section
variable [Inhabited PrSet]{B l k:Nat}{w w':World}{S S':Dk}{R':Lr}
def Opn (S S':Dk) (bs sc run:Nat) (t:ByteArray):Prop:=(sc<=t.size / 58/\S'=S)∨(t.size / 58<sc/\Laid S S' (nw bs t run (t.size / 58) (min (t.size / 58+1) sc)) 0)
set_option maxHeartbeats 4000000 in
theorem Open_calm {db:Nat} (h:Ds B w db k S) (hk:k<=300000000000) (bs sc run:Nat) (hs1:1<=sc) (hsc2:sc<=8000) (hr1:1<=run) (hr2:run<=4294967295) (hfit:bs+sc<=S.n) (hu:S.up=true) (hc:S.set=false)
  (Q:Nat->Sec) (hQ:∀ i,i<sc->S.now (bs+i)=encQ (Q i)/\(Q i).1<4294967296/\(Q i).2.size<=58) :
  Calls Tryz.prog 8 #[.pointer (some ⟨db,0,none⟩),.int .i64 (bs:Int),.int .i64 (sc:Int),.int .i64 (run:Int)] w fun e w' =>
   ∃ fs S' l,e=.returned (.tuple #[.pointer (some ⟨l,0,none⟩),.int .i64 0])/\Spl (stand Q run sc) fs/\Opn S S' bs sc run (cat fs)/\Lx B w' l (k+sc+1) S' (opR db bs sc run fs)/\Kp isA B w w':=by
 have hn2:=h.q.ok.n2
 obtain⟨R1,hR1⟩:∃ R1:Lr,R1=⟨db,(bs:Int),(sc:Int),(run:Int),⟨#[]⟩,[],0,false⟩:=⟨_,rfl⟩
 have HSZ:Hid ((stand Q run sc).size<=58*sc):=stK_size Q run sc 0 1 (fun j h1 h2=>(hQ j (by omega)).2.2)
 have CZ:Hid (Calls Tryz.prog 29 #[.pointer (some ⟨db,0,none⟩)] w fun e w'=>e=.returned (.int .i64 (S.n:Int))/\w'=w):=h.size
 have CS:Hid (∀ wx,Lx B wx w.heap.size k S R1->Calls Tryz.prog 30 #[.pointer (some ⟨w.heap.size,0,none⟩)] wx fun e w'=>e=.returned (.tuple #[.string (stand Q run sc),.int .i64 0])/\Below wx.heap.size wx w'):=fun wx hx=>standing_any hx (by rw[hR1]) (by rw[hR1]) run (by rw[hR1]) hsc2 hfit hu Q hQ
 have CF:Hid (∀ wx,Calls Tryz.prog 31 #[.string (stand Q run sc)] wx fun e w'=>∃ v fs,e=.returned (.tuple #[v,.int .i64 ((cat fs).size:Int)])/\OwnI wx.heap.size w' v (plc 0 fs)/\Spl (stand Q run sc) fs/\Below wx.heap.size wx w'):=fun wx=>frames_any _ (by have:=HSZ.out;omega)
 have HC:Hid (∀ fs,Spl (stand Q run sc) fs->(cat fs).size<=464000/\fs.length<=100000):=fun fs hf=>by
  obtain⟨x,hx⟩:=hf.pre
  have h1:=HSZ.out
  rw[hx,bsz] at h1
  have:=cat_len hf.frm
  omega
 have HSL:Hid (∀ fs,Spl (stand Q run sc) fs->∀ W,(Instr.slice 9 (.string (stand Q run sc)) none (some (.int .i64 ((cat fs).size:Int))) none).run Tryz.prog W=.ok (.string (cat fs)) W):=fun fs hf W=>by
  obtain⟨x,hx⟩:=hf.pre
  have hl:(cat fs).size<=(stand Q run sc).size:=by rw[hx,bsz];omega
  rw[run_slice_string_to_if W 9 _ .i64 _ Tryz.underlying9,if_pos (by omega),Int.toNat_natCast,hx,ext_left]
 have CG:Hid (∀ w0 wx v fs,Spl (stand Q run sc) fs->Lx B w0 w.heap.size k S R1->Below w0.heap.size w0 wx->OwnI w0.heap.size wx v (plc 0 fs)->Calls Tryz.prog 32 #[.pointer (some ⟨w.heap.size,0,none⟩),.string (cat fs),v] wx fun e w'=>e=.returned (.tuple #[])/\Lx B w' w.heap.size k S {R1 with T:=cat fs,ps:=plc 1 fs}/\Kp isL B wx w'):=fun w0 wx v fs hf hx hb ho=>by
  have hz:=HC.out fs hf
  have:=gather_any hx.g hb ho (cat fs) (by rw[hR1];dsimp only;rw[nilz];omega) (plc_bd fs 0 1000000 (by omega)) (by rw[hR1,plc_length];dsimp only;simp;omega)
  refine this.mono ?_
  rintro e w' ⟨he,hL,hK⟩
  refine⟨he,⟨?_,?_⟩,hK⟩
  ·exact(hx.below hb).d.kept hK
  ·have e1:R1.T++cat fs=cat fs:=by rw[hR1];exact nil_app _
   have e2:R1.ps++moved ((R1.T.size:Int)+1) (plc 0 fs)=plc 1 fs:=by rw[hR1];exact moved_plc fs 0
   rw[e1,e2] at hL
   exact hL
 have CE:Hid (∀ wx fs,Spl (stand Q run sc) fs->Lx B wx w.heap.size k S {R1 with T:=cat fs,ps:=plc 1 fs}->Calls Tryz.prog 33 #[.pointer (some ⟨w.heap.size,0,none⟩)] wx fun e w'=>e=.returned (.int .i64 (((cat fs).size:Int)+1))/\w'=wx):=fun wx fs hf hx=>End_any hx.g (by have:=HC.out fs hf;dsimp only;omega)
 have HD:Hid (∀ wx fs,Lx B wx w.heap.size k S {R1 with T:=cat fs,ps:=plc 1 fs}->Lx B (wx.setCell ⟨w.heap.size,8,none⟩ (.int .i64 (((cat fs).size:Int)+1))) w.heap.size k S (opR db bs sc run fs)/\Kp isL B wx (wx.setCell ⟨w.heap.size,8,none⟩ (.int .i64 (((cat fs).size:Int)+1)))):=fun wx fs hx=>hx.set (by rw[hR1];rfl) rfl rfl (fun p v pv=>by rw[hR1];rfl)
 have CT:Hid (∀ wx fs,Spl (stand Q run sc) fs->Lx B wx w.heap.size k S (opR db bs sc run fs)->Calls Tryz.prog 34 #[.pointer (some ⟨w.heap.size,0,none⟩),.int .i64 (((cat fs).size:Int)+1),.int .i64 (run:Int)] wx fun v w' =>
   ∃ S',v=.returned (.int .i64 0)/\Opn S S' bs sc run (cat fs)/\Lx B w' w.heap.size (k+sc+1) S' (opR db bs sc run fs)/\Kp isA B wx w'):=fun wx fs hf hx=>by
  have hz:=HC.out fs hf
  have:=settle_any hx (by omega) (bs:=bs) (sc:=sc) (d:=(cat fs).size) rfl rfl rfl (by show(cat fs).size<=500000;omega) (by omega) (by omega) (((cat fs).size:Int)+1) (cat fs).size rfl (Nat.le_refl _) run (by omega) hfit hu
  refine this.mono ?_
  rintro v w' ⟨S',x,R',hv,hl,hK,hz2⟩
  have e1:(opR db bs sc run fs).T.extract 0 (cat fs).size=cat fs:=ext_whole (cat fs)
  rw[e1,Nat.min_self] at hz2
  rcases hz2 with⟨h1,rfl,rfl,rfl⟩ |⟨h1,rfl,h2⟩
  ·exact⟨_,hv,Or.inl ⟨by omega,rfl⟩,hl,hK⟩
  ·obtain⟨rfl,_⟩:=h2.calm hc
   exact⟨S',hv,Or.inr ⟨by omega,h2⟩,hl,hK⟩
 have H0:Hid (∀ o:Obj,Ds B (w.alloc o) db k S):=fun o=>h.below ((Below.refl _ _).alloc (Nat.le_refl _) _)
 have hle:=h.lt
 have hlp:=h.lp
 have HN:Hid (Lx B (w.alloc (.cells #[.pointer (some ⟨w.heap.size,0,none⟩),.pointer (some ⟨db,0,none⟩),.int .i64 (bs:Int),.int .i64 (sc:Int),.int .i64 (run:Int),.pointer none,.slice none 0 0,.slice none 0 0,.int .i64 0,.bool false] 87)) w.heap.size k S R1):=by
  subst hR1
  exact⟨H0.out _,⟨⟨_,_,_,(MapKept.heap_alloc w _).1,Or.inl rfl,World.ownsRowF_nil _ _ _ _,OwnI.nil _ _,npv.nil,npv.nil⟩,hlp.ow hle (Nat.le_refl _),by simp;omega,hlp.below ((Below.refl _ _).alloc (Nat.le_refl _) _)⟩⟩
 have t1:¬ (bs:Int)<0:=by omega
 have t2:¬ (sc:Int)<1:=by omega
 have t3:¬ (run:Int)<1:=by omega
 have t4:¬ (4294967295:Int)<(run:Int):=by omega
 have t5:¬ (S.n:Int)-(bs:Int)<(sc:Int):=by omega
 have hw1:IntKind.i64.wrap ((S.n:Int)-(bs:Int))=(S.n:Int)-(bs:Int):=by rw[IntKind.wrap_i64];omega
 clear h hQ hu hc hfit hR1 HSZ hsc2 hr1 hr2 hs1 hn2 hk
 generalize stand Q run sc=ST at *
 generalize (S.n:Int)=sn at *
 go_enter Tryz.func8,Tryz.ntmps8
 go_wp2_with (first
  | (go_at_call 29;refine CZ.out.mono ?_;rintro e w0 ⟨rfl,rfl⟩)
  | (go_at_call 30;refine(CS.out _ HN.out).mono ?_;rintro e w1 ⟨rfl,b1⟩;have H1:=HN.out.below b1;have bb1:Below w0.heap.size w0 w1:=thn ((Below.refl _ _).alloc (Nat.le_refl _) _) b1;clear HN b1)
  | (go_at_call 31;refine(CF.out _).mono ?_;rintro e w2 ⟨v,fs,rfl,ho,hsp,b2⟩;have hsl:=HSL.out fs hsp;obtain⟨av,cv,rfl⟩:=ho.ex)
  | (go_at_call 32;refine(CG.out w1 _ _ fs hsp H1 b2 ho).mono ?_;rintro e w3 ⟨rfl,H3,k3⟩;have c8:=H3.g.c8;have f8:=H3.g.f 8)
  | (go_at_call 33;refine(CE.out _ fs hsp H3).mono ?_;rintro e w4 ⟨rfl,rfl⟩)
  | (go_at_call 34;refine(CT.out _ fs hsp (HD.out _ fs H3).1).mono ?_;rintro e w5 ⟨S',rfl,hop,H5,k5⟩))
 go_ret2
 have k4:=(HD.out _ fs H3).2
 exact⟨fs,S',_,rfl,hsp,hop,H5,(((Kp.of_below (thn bb1 b2) hle).trans k3.l).trans k4.l).trans k5⟩
end
def lgR (db bs sc run:Nat) (fs:List ByteArray) (dur:Nat) (dead:Bool):Lr:=⟨db,(bs:Int),(sc:Int),(run:Int),cat fs,plc 1 fs,(dur:Int)+1,dead⟩
structure Fit (sc:Nat) (fs:List ByteArray):Prop where
 frm:∀ f∈fs,Frm f
 sz:(cat fs).size<=58*sc
 s0:1<=sc
 s1:sc<=8000
section
variable [Inhabited PrSet]{B l k db:Nat}{w w':World}{S:Dk}
theorem Lx.kept {R R':Lr} (h:Lx B w l k S R) (hd:R'.db=R.db) (g:LrIs B w' l R') (hk:Kp isL B w w'):Lx B w' l k S R':=⟨by rw[hd];exact h.d.kept hk,g⟩
end
section
variable {l:Nat}{fs gs:List ByteArray}
theorem cat_moved (fs gs:List ByteArray):plc 1 fs++moved (((cat fs).size:Int)+1) (plc 0 gs)=plc 1 (fs++gs):=by
 rw[plc_append]
 congr 1
 have:∀ (gs:List ByteArray) (a n:Nat),moved ((n:Int)+1) (plc a gs)=plc (1+n+a) gs:=by
  intro gs
  induction gs with
  | nil=>intro a n;rfl
  | cons f l ih =>
   intro a n
   have:=ih (a+f.size) n
   simp only[moved,plc,List.map_cons] at this ⊢
   rw[this,show 1+n+(a+f.size)=1+n+a+f.size by omega,show(n:Int)+1+(a:Int)=((1+n+a:Nat):Int) by omega]
 have e:=this gs 0 (cat fs).size
 rw[Nat.add_zero] at e
 exact e
end
section
variable [Inhabited PrSet]{B l k db bs sc run dur:Nat}{w w' w0:World}{S:Dk}{fs gs:List ByteArray}{dead:Bool}
set_option maxHeartbeats 1000000 in
theorem add_full (h:Lx B w l k S (lgR db bs sc run fs dur dead)) (hf:Fit sc fs) (s:ByteArray) (hs:s.size<=1000000) (v:Value) (hn:¬ (cat fs).size+s.size<=58*sc):Calls Tryz.prog 72 #[.pointer (some ⟨l,0,none⟩),.string s,v] w fun e w'=>e=.returned (.tuple #[.int .i64 0,.int .i64 7])/\Below w.heap.size w w':=by
 have h1:=hf.sz
 have h2:=hf.s1
 have CL:Hid (Calls Tryz.prog 105 #[.pointer (some ⟨l,0,none⟩)] w fun e w'=>e=.returned (.int .i64 ((sc:Int)*58-((cat fs).size:Int)))/\Below w.heap.size w w'):=Left_any h.g (by show(cat fs).size<=1000000;omega) (by show(0:Int)<=(sc:Int);omega) (by show(sc:Int)<=10000;omega)
 have t1:(sc:Int)*58-((cat fs).size:Int)<(s.size:Int):=by omega
 clear h hf hn h1 h2
 generalize (sc:Int)*58-((cat fs).size:Int)=L at *
 have hs':(s.size:Int)<=1000000:=by omega
 go_enter Tryz.func72,Tryz.ntmps72
 go_wp2_with (go_at_call 105;refine CL.out.mono ?_;rintro e w1 ⟨rfl,b1⟩)
 go_ret2
 exact⟨rfl,b1⟩
set_option maxHeartbeats 1000000 in
theorem add_ok {v:Value} (h:Lx B w0 l k S (lgR db bs sc run fs dur false)) (hb:Below w0.heap.size w0 w) (hf:Fit sc fs) (hg:∀ g∈gs,Frm g) (ho:OwnI w0.heap.size w v (plc 0 gs)) (hn:(cat fs).size+(cat gs).size<=58*sc) :
  Calls Tryz.prog 72 #[.pointer (some ⟨l,0,none⟩),.string (cat gs),v] w fun e w'=>e=.returned (.tuple #[.int .i64 (((cat fs).size:Int)+1),.int .i64 0])/\Lx B w' l k S (lgR db bs sc run (fs++gs) dur false)/\Kp isL B w w':=by
 have h1:=hf.sz
 have h2:=hf.s1
 have CL:Hid (Calls Tryz.prog 105 #[.pointer (some ⟨l,0,none⟩)] w fun e w'=>e=.returned (.int .i64 ((sc:Int)*58-((cat fs).size:Int)))/\Below w.heap.size w w'):=Left_any (h.below hb).g (by show(cat fs).size<=1000000;omega) (by show(0:Int)<=(sc:Int);omega) (by show(sc:Int)<=10000;omega)
 have CE:Hid (∀ wx,Below w0.heap.size w0 wx->Calls Tryz.prog 33 #[.pointer (some ⟨l,0,none⟩)] wx fun e w'=>e=.returned (.int .i64 (((cat fs).size:Int)+1))/\w'=wx):=fun wx hx=>End_any (h.below hx).g (by show(cat fs).size<=1000000;omega)
 have CG:Hid (∀ wx,Below w0.heap.size w0 wx->OwnI w0.heap.size wx v (plc 0 gs)->Calls Tryz.prog 32 #[.pointer (some ⟨l,0,none⟩),.string (cat gs),v] wx fun e w'=>e=.returned (.tuple #[])/\Lx B w' l k S (lgR db bs sc run (fs++gs) dur false)/\Kp isL B wx w'):=fun wx hx hox=>by
  have l1:=cat_len hf.frm
  have l2:=cat_len hg
  have:=gather_any h.g hx hox (cat gs) (by show(cat fs).size+(cat gs).size<=1000000;omega) (plc_bd gs 0 1000000 (by omega)) (by show(plc 1 fs).length+(plc 0 gs).length<=100000;rw[plc_length,plc_length];omega)
  refine this.mono ?_
  rintro e w' ⟨he,hL,hK⟩
  refine⟨he,(h.below hx).kept rfl ?_ hK,hK⟩
  have e1:cat fs++cat gs=cat (fs++gs):=(cat_append fs gs).symm
  have e2:=cat_moved fs gs
  show LrIs B w' l ⟨db,(bs:Int),(sc:Int),(run:Int),cat (fs++gs),plc 1 (fs++gs),(dur:Int)+1,false⟩
  rw[← e1,← e2]
  exact hL
 have HO:Hid (OwnI w0.heap.size w v (plc 0 gs)):=ho
 have HB:Hid (Below w0.heap.size w0 w):=hb
 have H9:Hid (∀ wx,Below w0.heap.size w0 wx->wx.cell? ⟨l,9,none⟩=some (.bool false)):=fun wx hx=>(h.below hx).g.c9
 have hle:=h.le
 have t1:¬ (sc:Int)*58-((cat fs).size:Int)<((cat gs).size:Int):=by omega
 have hs':((cat gs).size:Int)<=1000000:=by omega
 clear h hf hn h1 h2 ho hb hg
 generalize (sc:Int)*58-((cat fs).size:Int)=L at *
 generalize ((cat fs).size:Int)+1=E at *
 generalize cat gs=s at *
 go_enter Tryz.func72,Tryz.ntmps72
 go_wp2_with (first
  | (go_at_call 105;refine CL.out.mono ?_;rintro e w1 ⟨rfl,b1⟩;have bb:Below w0.heap.size w0 w1:=thn HB.out b1;have c9:=H9.out _ bb)
  | (go_at_call 33;refine(CE.out _ bb).mono ?_;rintro e w2 ⟨rfl,rfl⟩)
  | (go_at_call 32;refine(CG.out _ bb (HO.out.below b1)).mono ?_;rintro e w3 ⟨rfl,H3,k3⟩))
 go_ret2
 exact⟨rfl,H3,(Kp.of_below b1 (Nat.le_trans hle HB.out.size)).trans k3⟩
set_option maxHeartbeats 1000000 in
theorem append_err {v:Value} {m:Rm} (h:Lx B w l k S (lgR db bs sc run fs dur false)) (hf:Fit sc fs) (hv:RecV w v m) (hm:Small m) (he:(frameM m).2≠0) :
  Calls Tryz.prog 35 #[.pointer (some ⟨l,0,none⟩),v] w fun e w'=>e=.returned (.tuple #[.int .i64 0,.int .i64 (frameM m).2])/\Below w.heap.size w w':=by
 have CI:Hid (∀ wx,Below w.heap.size w wx->Calls Tryz.prog 43 #[.pointer (some ⟨l,0,none⟩)] wx fun e w'=>e=.returned (.bool true)/\w'=wx):=fun wx hx=>isOpen_any (h.below hx).g
 have CF:Hid (∀ wx,Below w.heap.size w wx->Calls Tryz.prog 71 #[v] wx fun r w'=>r=.returned (.tuple #[.string (frameM m).1,.int .i64 (frameM m).2])/\Below wx.heap.size wx w'):=fun wx hx=>Frame_any (hv.below hx) hm
 have he':((frameM m).2 !=0)=true:=by simpa using he
 clear he
 generalize (frameM m).1=F at *
 generalize (frameM m).2=E at *
 obtain⟨sm,im,tb⟩:=m
 obtain⟨I,T,rfl,hI,hT⟩:=hv.ex
 dsimp only at *
 clear hf hv hI hT
 have H:Hid (Lx B w l k S (lgR db bs sc run fs dur false)):=h
 have hle:=h.le
 clear h
 go_enter Tryz.func35,Tryz.ntmps35
 go_wp2_with (first
  | (refine wpList_box_rc (s:=sm) (I:=_) (T:=_) _ rfl _ rfl rfl ?_;intro w1 b1 N1)
  | (go_at_call 43;refine(CI.out _ N1.below).mono ?_;rintro e w2 ⟨rfl,rfl⟩)
  | (refine wpList_load_rc _ rfl (.tmp 3) rfl rfl N1.rc ?_)
  | (go_at_call 71;refine(CF.out _ N1.below).mono ?_;rintro e w3 ⟨rfl,b3⟩;have bb:=thn N1.below b3;clear N1 b3))
 go_ret2
 exact⟨rfl,bb⟩
set_option maxHeartbeats 1000000 in
theorem append_full {v:Value} {m:Rm} (h:Lx B w l k S (lgR db bs sc run fs dur false)) (hf:Fit sc fs) (hv:RecV w v m) (hm:Small m) (he:(frameM m).2=0) (hn:¬ (cat fs).size+(frameM m).1.size<=58*sc) :
  Calls Tryz.prog 35 #[.pointer (some ⟨l,0,none⟩),v] w fun e w'=>e=.returned (.tuple #[.int .i64 0,.int .i64 7])/\Below w.heap.size w w':=by
 have CI:Hid (∀ wx,Below w.heap.size w wx->Calls Tryz.prog 43 #[.pointer (some ⟨l,0,none⟩)] wx fun e w'=>e=.returned (.bool true)/\w'=wx):=fun wx hx=>isOpen_any (h.below hx).g
 have CF:Hid (∀ wx,Below w.heap.size w wx->Calls Tryz.prog 71 #[v] wx fun r w'=>r=.returned (.tuple #[.string (frameM m).1,.int .i64 (frameM m).2])/\Below wx.heap.size wx w'):=fun wx hx=>Frame_any (hv.below hx) hm
 have hz:=(frm_good he).le
 have CA:Hid (∀ wx v',Below w.heap.size w wx->Calls Tryz.prog 72 #[.pointer (some ⟨l,0,none⟩),.string (frameM m).1,v'] wx fun e w'=>e=.returned (.tuple #[.int .i64 0,.int .i64 7])/\Below wx.heap.size wx w'):=fun wx v' hx=>add_full (h.below hx) hf _ (by omega) v' hn
 rw[he] at CF
 clear he hn hz
 generalize (frameM m).1=F at *
 obtain⟨sm,im,tb⟩:=m
 obtain⟨I,T,rfl,hI,hT⟩:=hv.ex
 dsimp only at *
 clear hf hv hI hT
 have H:Hid (Lx B w l k S (lgR db bs sc run fs dur false)):=h
 have hle:=h.le
 clear h
 go_enter Tryz.func35,Tryz.ntmps35
 go_wp2_with (first
  | (refine wpList_box_rc (s:=sm) (I:=_) (T:=_) _ rfl _ rfl rfl ?_;intro w1 b1 N1)
  | (go_at_call 43;refine(CI.out _ N1.below).mono ?_;rintro e w2 ⟨rfl,rfl⟩)
  | (refine wpList_load_rc _ rfl (.tmp 3) rfl rfl N1.rc ?_)
  | (go_at_call 71;refine(CF.out _ N1.below).mono ?_;rintro e w3 ⟨rfl,b3⟩;have bb:=thn N1.below b3;clear N1 b3)
  | (go_at_call 72;refine(CA.out _ _ ?_).mono ?_;exact thn bb ((Below.refl _ _).alloc (Nat.le_refl _) _);rintro e w5 ⟨rfl,b5⟩))
 go_ret2
 exact⟨rfl,thn (thn bb ((Below.refl _ _).alloc (Nat.le_refl _) _)) b5⟩
set_option maxHeartbeats 1000000 in
theorem append_ok {v:Value} {m:Rm} (h:Lx B w l k S (lgR db bs sc run fs dur false)) (hf:Fit sc fs) (hv:RecV w v m) (hm:Small m) (he:(frameM m).2=0) (hn:(cat fs).size+(frameM m).1.size<=58*sc) :
  Calls Tryz.prog 35 #[.pointer (some ⟨l,0,none⟩),v] w fun e w'=>e=.returned (.tuple #[.int .i64 (((cat fs).size:Int)+1),.int .i64 0])/\Lx B w' l k S (lgR db bs sc run (fs++[(frameM m).1]) dur false)/\Kp isL B w w':=by
 have CI:Hid (∀ wx,Below w.heap.size w wx->Calls Tryz.prog 43 #[.pointer (some ⟨l,0,none⟩)] wx fun e w'=>e=.returned (.bool true)/\w'=wx):=fun wx hx=>isOpen_any (h.below hx).g
 have CF:Hid (∀ wx,Below w.heap.size w wx->Calls Tryz.prog 71 #[v] wx fun r w'=>r=.returned (.tuple #[.string (frameM m).1,.int .i64 (frameM m).2])/\Below wx.heap.size wx w'):=fun wx hx=>Frame_any (hv.below hx) hm
 have hfr:=frm_good he
 have hcat:cat [(frameM m).1]=(frameM m).1:=by rw[cat,cat,app_nil]
 have CA:Hid (∀ w0 wx v',Below w.heap.size w w0->Below w0.heap.size w0 wx->OwnI w0.heap.size wx v' [0]->Calls Tryz.prog 72 #[.pointer (some ⟨l,0,none⟩),.string (frameM m).1,v'] wx fun e w'=>e=.returned (.tuple #[.int .i64 (((cat fs).size:Int)+1),.int .i64 0])/\Lx B w' l k S (lgR db bs sc run (fs++[(frameM m).1]) dur false)/\Kp isL B wx w'):=fun w0 wx v' h0 hx ho=>by
  have:=add_ok (gs:=[(frameM m).1]) (h.below h0) hx hf (fun g hg=>by rw[List.mem_singleton] at hg;subst hg;exact hfr) ho (by rw[hcat];exact hn)
  rw[hcat] at this
  exact this
 rw[he] at CF
 clear he hn hfr hcat
 generalize (frameM m).1=F at *
 generalize ((cat fs).size:Int)+1=E at *
 obtain⟨sm,im,tb⟩:=m
 obtain⟨I,T,rfl,hI,hT⟩:=hv.ex
 dsimp only at *
 clear hf hv hI hT
 have H:Hid (Lx B w l k S (lgR db bs sc run fs dur false)):=h
 have hle:=h.le
 clear h
 go_enter Tryz.func35,Tryz.ntmps35
 go_wp2_with (first
  | (refine wpList_box_rc (s:=sm) (I:=_) (T:=_) _ rfl _ rfl rfl ?_;intro w1 b1 N1)
  | (go_at_call 43;refine(CI.out _ N1.below).mono ?_;rintro e w2 ⟨rfl,rfl⟩)
  | (refine wpList_load_rc _ rfl (.tmp 3) rfl rfl N1.rc ?_)
  | (go_at_call 71;refine(CF.out _ N1.below).mono ?_;rintro e w3 ⟨rfl,b3⟩;have bb:=thn N1.below b3;clear N1 b3)
  | (go_at_call 72;refine(CA.out w3 _ _ bb ?_ ?_).mono ?_;exact(Below.refl _ _).alloc (Nat.le_refl _) _;exact OwnI.one 0 (Nat.le_refl _);rintro e w5 ⟨rfl,H5,k5⟩))
 go_ret2
 exact⟨rfl,H5,(Kp.of_below (thn bb ((Below.refl _ _).alloc (Nat.le_refl _) _)) hle).trans k5⟩
end
section
variable {B:Nat}{w w':World}{fs:List ByteArray}
theorem search_any {v:Value} {ps:List Int} (h:OwnI B w v ps) (hs:ps.Pairwise (·<=·)) (hl:ps.length<=1000000) (x:Int):Calls Tryz.prog 106 #[v,.int .i64 x] w fun e w'=>e=.returned (.tuple #[.int .i64 (ps.countP (·<x):Nat),.bool (ps.contains x)])/\∃ q,w'=w.drewN q:=by
 rcases h.row.2 with⟨rfl,hn⟩ |⟨g,cap,cur,rfl,hbg,hgg,hnc,hcm,hcs,htake⟩
 ·have:ps=[]:=List.eq_nil_of_length_eq_zero hn
  subst this
  refine(Tryz.slices_BinarySearch_int_empty none 0 x w).mono ?_
  rintro e w' ⟨he,hw⟩
  subst hw
  exact⟨he,0,rfl⟩
 ·have:=Tryz.slices_BinarySearch_int g 0 ps.length cap ps x w (Nat.le_refl _) (by omega) (fun j hj=>by
   rw[Nat.zero_add,Lib.cell_of_heap hgg]
   have:(iv ps)[j]?=some (.int .i64 ps[j]):=by simp[iv,hj]
   rw[← htake,List.getElem?_take,if_pos (by omega)] at this
   rw[List.getD_eq_getElem?_getD,List.getElem?_eq_getElem hj]
   simpa using this) (by rw[List.take_length];exact hs)
  rw[List.take_length] at this
  exact this
def bnd (fs:List ByteArray) (x:Int):Bool:=(plc 1 fs).contains x||decide (x=((cat fs).size:Int)+1)
end
section
variable {fs:List ByteArray}
theorem bnd_iff {fs:List ByteArray} {x:Int}:bnd fs x=true↔∃ i,i<=fs.length/\x=((1+off fs i:Nat):Int):=by
 unfold bnd
 rw[Bool.or_eq_true,plc_has,decide_eq_true_eq]
 constructor
 ·rintro(⟨i,hi,e⟩ |e)
  ·exact⟨i,by omega,e⟩
  ·exact⟨fs.length,Nat.le_refl _,by rw[off_all];omega⟩
 ·rintro⟨i,hi,e⟩
  rcases Nat.lt_or_ge i fs.length with h |h
  ·exact Or.inl ⟨i,h,e⟩
  ·have:i=fs.length:=by omega
   subst this
   rw[off_all] at e
   exact Or.inr (by omega)
end
section
variable [Inhabited PrSet]{B l k:Nat}{w:World}{S:Dk}
theorem Lx.row {R:Lr} (h:Lx B w l k S R):∃ a c,w.cell? ⟨l,7,none⟩=some (.slice a R.ps.length c)/\OwnI B w (.slice a R.ps.length c) R.ps:=h.g.c7
end
section
variable {sc:Nat}{fs:List ByteArray}
theorem fit_len {fs:List ByteArray} (hf:Fit sc fs):(plc 1 fs).length<=70000:=by
 have:=cat_len hf.frm
 have:=hf.sz
 have:=hf.s1
 rw[plc_length];omega
end
section
variable [Inhabited PrSet]{B l k db bs sc run dur:Nat}{w w' w0:World}{S:Dk}{fs:List ByteArray}{dead:Bool}
set_option maxHeartbeats 1000000 in
theorem Bound_any (h:Lx B w l k S (lgR db bs sc run fs dur dead)) (hf:Fit sc fs) (x:Int):Calls Tryz.prog 74 #[.pointer (some ⟨l,0,none⟩),.int .i64 x] w fun e w'=>e=.returned (.bool (bnd fs x))/\Below w.heap.size w w':=by
 have h1:=hf.sz
 have h2:=hf.s1
 have hl:=fit_len hf
 have CI:Hid (Calls Tryz.prog 43 #[.pointer (some ⟨l,0,none⟩)] w fun e w'=>e=.returned (.bool true)/\w'=w):=isOpen_any h.g
 have CE:Hid (∀ wx,Lx B wx l k S (lgR db bs sc run fs dur dead)->Calls Tryz.prog 33 #[.pointer (some ⟨l,0,none⟩)] wx fun e w'=>e=.returned (.int .i64 (((cat fs).size:Int)+1))/\w'=wx):=fun wx hx=>End_any hx.g (by show(cat fs).size<=1000000;omega)
 obtain⟨a,c,c7,ho⟩:=h.row
 have CB:Hid (Calls Tryz.prog 106 #[.slice a (plc 1 fs).length c,.int .i64 x] w fun e w'=>e=.returned (.tuple #[.int .i64 ((plc 1 fs).countP (·<x):Nat),.bool ((plc 1 fs).contains x)])/\∃ q,w'=w.drewN q):=search_any ho (plc_sorted 1 fs) (by show(plc 1 fs).length<=1000000;omega) x
 have c7':w.cell? ⟨l,7,none⟩=some (.slice a (plc 1 fs).length c):=c7
 have H:Hid (Lx B w l k S (lgR db bs sc run fs dur dead)):=h
 have HB:Hid (bnd fs x=((plc 1 fs).contains x||decide (x=((cat fs).size:Int)+1))):=rfl
 clear h hf h1 h2 c7 ho
 generalize (plc 1 fs).contains x=b at *
 generalize ((plc 1 fs).countP (·<x):Nat)=ct at *
 generalize (plc 1 fs).length=n at *
 generalize ((cat fs).size:Int)+1=E at *
 generalize bnd fs x=r at *
 have hbel:∀ q,Below w.heap.size w (w.drewN q):=fun q=>Sm.below_dr (Below.refl _ _) q
 cases b with
 | true =>
  go_enter Tryz.func74,Tryz.ntmps74
  go_wp2_with (first
   | (go_at_call 43;refine CI.out.mono ?_;rintro e w0 ⟨rfl,rfl⟩)
   | (go_at_call 106;refine CB.out.mono ?_;rintro e w1 ⟨rfl,q,rfl⟩))
  go_ret
  rw[HB.out]
  exact⟨rfl,hbel q⟩
 | false =>
  go_enter Tryz.func74,Tryz.ntmps74
  go_wp2_with (first
   | (go_at_call 43;refine CI.out.mono ?_;rintro e w0 ⟨rfl,rfl⟩)
   | (go_at_call 106;refine CB.out.mono ?_;rintro e w1 ⟨rfl,q,rfl⟩)
   | (go_at_call 33;refine(CE.out _ (H.out.drewN q)).mono ?_;rintro e w2 ⟨rfl,rfl⟩))
  go_ret
  rw[HB.out,Bool.false_or]
  exact⟨rfl,hbel q⟩
end
section
variable [Inhabited PrSet]{B l k db bs sc run dur:Nat}{w w':World}{S:Dk}{fs:List ByteArray}{dead:Bool}
set_option maxHeartbeats 1000000 in
theorem read_out (h:Lx B w l k S (lgR db bs sc run fs dur dead)) (hf:Fit sc fs) (x:Int) (hx:x<1∨((cat fs).size:Int)+1<=x):Calls Tryz.prog 36 #[.pointer (some ⟨l,0,none⟩),.int .i64 x] w fun e w'=>e=.returned (.tuple #[.agg (zS.A nilV nilV),.int .i64 0,.int .i64 8])/\Below w.heap.size w w':=by
 have h1:=hf.sz
 have h2:=hf.s1
 have CI:Hid (∀ wx,Below w.heap.size w wx->Calls Tryz.prog 43 #[.pointer (some ⟨l,0,none⟩)] wx fun e w'=>e=.returned (.bool true)/\w'=wx):=fun wx hx=>isOpen_any (h.below hx).g
 have CE:Hid (∀ wx,Below w.heap.size w wx->Calls Tryz.prog 33 #[.pointer (some ⟨l,0,none⟩)] wx fun e w'=>e=.returned (.int .i64 (((cat fs).size:Int)+1))/\w'=wx):=fun wx hx=>End_any (h.below hx).g (by show(cat fs).size<=1000000;omega)
 clear h hf h1 h2
 generalize ((cat fs).size:Int)+1=E at *
 by_cases h3:x<1
 ·clear hx
  go_enter Tryz.func36,Tryz.ntmps36
  go_wp2_with (first
   | (refine wpList_new_rc _ rfl rfl ?_;intro w1 b4 N1)
   | (go_at_call 43;refine(CI.out _ N1.below).mono ?_;rintro e w2 ⟨rfl,rfl⟩)
   | (refine wpList_put_rc (s':=zS) (I':=nilV) (T':=nilV) _ rfl (.tmp 4) (.tmp 22) rfl rfl rfl N1.rc rfl rfl ?_;intro w6 P6))
  refine bodyPost_ret (results_rc3 rfl _ _ rfl P6.rc) rfl ?_
  exact⟨rfl,N1.below.trans (P6.below (by have:=N1.eq;omega) N1.below.size)⟩
 ·have h4:E<=x:=by omega
  clear hx
  go_enter Tryz.func36,Tryz.ntmps36
  go_wp2_with (first
   | (refine wpList_new_rc _ rfl rfl ?_;intro w1 b4 N1)
   | (go_at_call 43;refine(CI.out _ N1.below).mono ?_;rintro e w2 ⟨rfl,rfl⟩)
   | (go_at_call 33;refine(CE.out _ N1.below).mono ?_;rintro e w3 ⟨rfl,rfl⟩)
   | (refine wpList_put_rc (s':=zS) (I':=nilV) (T':=nilV) _ rfl (.tmp 4) (.tmp 22) rfl rfl rfl N1.rc rfl rfl ?_;intro w6 P6))
  refine bodyPost_ret (results_rc3 rfl _ _ rfl P6.rc) rfl ?_
  exact⟨rfl,N1.below.trans (P6.below (by have:=N1.eq;omega) N1.below.size)⟩
end
def isR:Obj->Prop
 | .cells _ t _=>t=54
 | _=>False
section
variable [Inhabited PrSet]{B l k db bs sc run dur:Nat}{w w' w1 w2 w5 w6:World}{S:Dk}{fs:List ByteArray}{dead:Bool}{R:Lr}{A:Obj->Prop}
theorem Lx.keptR (h:Lx B w l k S R) {B':Nat} (hb:Kp isR B' w w'):Lx B w' l k S R:=by
 obtain⟨lb,mb,m,d1,d2,d3,d4⟩:=h.d.dsk
 obtain⟨p,v,pv,h1,h2,h3,h4,n3,n4⟩:=h.g.ex
 have e1:w'.heap[lb]?=w.heap[lb]?:=by
  obtain⟨cur,fz,e2⟩:=d1.row.ty
  rw[e2];exact hb.block _ _ e2 (by simp[isR])
 have e3:w'.heap[mb]?=w.heap[mb]?:=by
  obtain⟨es,c,e2⟩:=d1.map.is
  rw[e2];exact hb.block _ _ e2 (by simp[isR])
 refine⟨⟨⟨lb,mb,m,⟨hb.block _ _ d1.blk (by simp[isR]),d1.row.of_block e1 hb.size,d1.map.of_block e3,d1.ne⟩,d2,d3,d4⟩,h.d.q,h.d.hd,Nat.le_trans h.d.lt hb.size,h.d.lp.kp hb⟩,?_⟩
 exact⟨⟨p,v,pv,hb.block l _ h1 (by simp[isR]),h2,ownF_of h3 (fun k cur fz e=>hb.block k _ e (by simp[isR])),h4.of_block (fun k cur fz e=>hb.block k _ e (by simp[isR])),n3,n4⟩,h.g.ge,Nat.le_trans h.g.le hb.size,h.g.lp.kp hb⟩
theorem put_kp {b:Nat} {s0 s:Sc} {I0 T0 I T:Value} (hr:RcAt w b s0 I0 T0) (P:PutR w w' b s I T) (hB:Ow B b) (hw:B<=w.heap.size):Kp isR B w w' :=
 Kp.one hr.blk rfl (P.below hB.ge hw) hB.np (fun j o e hj=>(P.off.block j (lt_of_some e) hj).trans e)
theorem Kp.putR {b:Nat} {s:Sc} {I T:Value} (h:Kp A B w w5) (P:PutR w5 w6 b s I T) (hb:w.heap.size<=b) (hB:B<=w.heap.size):Kp A B w w6 :=
 ⟨h.bel.trans (P.below (Nat.le_trans hB hb) (Nat.le_trans hB h.size)),fun j o e hn=>(P.off.block j (lt_of_some (h.block j o e hn)) (fun e2=>by have:=lt_of_some e;omega)).trans (h.block j o e hn),fun j o e hn=>(P.off.block j (lt_of_some (h.prot j o e hn)) (fun e2=>by have:=lt_of_some e;omega)).trans (h.prot j o e hn)⟩
set_option maxHeartbeats 2000000 in
theorem read_ok (h:Lx B w l k S (lgR db bs sc run fs dur dead)) (hf:Fit sc fs) (x:Int) (hx1:1<=x) (hx2:x<((cat fs).size:Int)+1) {m:Rm} {n:Int} (ho:openM (cat fs) (x-1)=(m,n,0)) (hn0:0<=n) (hn1:n<=1000000) :
  Calls Tryz.prog 36 #[.pointer (some ⟨l,0,none⟩),.int .i64 x] w fun e w'=>(∃ v,e=.returned (.tuple #[v,.int .i64 (x+n),.int .i64 0])/\RecF w' v m w.heap.size)/\Lx B w' l k S (lgR db bs sc run fs dur dead)/\Kp isL B w w'/\Ce w w':=by
 have h1:=hf.sz
 have HLp:Hid (Ltp w):=h.g.lp
 have h2:=hf.s1
 have CI:Hid (∀ wx,Below w.heap.size w wx->Calls Tryz.prog 43 #[.pointer (some ⟨l,0,none⟩)] wx fun e w'=>e=.returned (.bool true)/\w'=wx):=fun wx hx=>isOpen_any (h.below hx).g
 have CE:Hid (∀ wx,Below w.heap.size w wx->Calls Tryz.prog 33 #[.pointer (some ⟨l,0,none⟩)] wx fun e w'=>e=.returned (.int .i64 (((cat fs).size:Int)+1))/\w'=wx):=fun wx hx=>End_any (h.below hx).g (by show(cat fs).size<=1000000;omega)
 have CS:Hid (∀ wx,Below w.heap.size w wx->Calls Tryz.prog 66 #[.pointer (some ⟨l,5,none⟩)] wx fun v w'=>v=.returned (.string (cat fs))/\Lx B w' l k S (lgR db bs sc run fs dur dead)/\Kp isL B wx w'/\Ce wx w'):=fun wx hx=>by
  refine(String_log2 (h.below hx).g).mono ?_
  rintro v w' ⟨hv,g1,k1,q1⟩
  exact⟨hv,(h.below hx).kept rfl g1 k1,k1,q1⟩
 have CO:Hid (∀ wx,Calls Tryz.prog 67 #[.string (cat fs),.int .i64 (x-1)] wx fun e w'=>(∃ v,e=.returned (.tuple #[v,.int .i64 n,.int .i64 0])/\RecF w' v m wx.heap.size)/\Below wx.heap.size wx w'):=fun wx=>by
  have:=Open_any (w:=wx) (cat fs) (x-1) (by omega)
  rw[ho] at this
  exact this
 have hle:=h.le
 have t1:¬ x<1:=by omega
 have t2:¬ ((cat fs).size:Int)+1<=x:=by omega
 have hxb:x<=1000000:=by omega
 clear h hf h1 h2 ho
 generalize ((cat fs).size:Int)+1=E at *
 generalize hT:cat fs=t at CS CO
 clear hT
 obtain⟨s9,l9,g9⟩:=m
 have hw1:IntKind.i64.wrap (x-1)=x-1:=by rw[IntKind.wrap_i64];omega
 have hw2:IntKind.i64.wrap (x+n)=x+n:=by rw[IntKind.wrap_i64];omega
 go_enter Tryz.func36,Tryz.ntmps36
 go_wp2_with (first
  | (have:=N1;refine wpList_new_rc _ rfl rfl ?_;intro w4 b7 N7)
  | (refine wpList_new_rc _ rfl rfl ?_;intro w1 b4 N1)
  | (go_at_call 43;refine(CI.out _ N1.below).mono ?_;rintro e w9 ⟨rfl,rfl⟩)
  | (go_at_call 33;refine(CE.out _ N1.below).mono ?_;rintro e w8 ⟨rfl,rfl⟩)
  | (go_at_call 66;refine(CS.out _ N1.below).mono ?_;rintro e w2 ⟨rfl,H2,k2,ce2⟩;have rc2:RcAt w2 b4 zS nilV nilV:=⟨k2.block _ _ N1.rc.blk (by simp[isL])⟩)
  | (go_at_call 67;refine(CO.out _).mono ?_;rintro e w3 ⟨⟨v,rfl,hv⟩,b3⟩;have rc3:=rc2.below b3;obtain⟨I,T,rfl,hI,hT⟩:=hv.ex;dsimp only at hI hT)
  | (refine wpList_at (Op.store 54 (.tmp 7) (.tmp 31)) rfl ?_;refine wpList_put_rc (s':=s9) (I':=I) (T':=T) _ rfl (.tmp 7) (.tmp 31) rfl rfl rfl N7.rc hI.slI.one hT.slT.one ?_;intro w5 P7;have b35:Below w3.heap.size w3 w5:=N7.below.trans (P7.below (by have:=N7.eq;omega) N7.below.size);have rc5:=rc3.below b35;have I5:=hI.below b35;have T5:=hT.below b35)
  | (refine wpList_load_rc _ rfl (.tmp 7) rfl rfl P7.rc ?_)
  | (refine wpList_at (Op.store 54 (.tmp 4) (.tmp 38)) rfl ?_;refine wpList_put_rc (s':=s9) (I':=I) (T':=T) _ rfl (.tmp 4) (.tmp 38) rfl rfl rfl rc5 hI.slI.one hT.slT.one ?_;intro w6 P6))
 refine bodyPost_ret (results_rc3 rfl _ _ rfl P6.rc) rfl ?_
 have e4:=N1.eq
 have z4:=N1.rc.lt
 have b25:Below w2.heap.size w2 w5:=thn b3 b35
 have K5:Kp isL B w w5:=((Kp.of_below N1.below hle).trans k2).below b25 hle
 have H5:=H2.below b25
 have hk2:=k2.size
 refine⟨⟨_,rfl,I,T,rfl,(I5.off P6.off (by omega)).mono (by omega),(T5.off P6.off (by omega)).mono (by omega)⟩,?_,K5.putR P6 (by omega) hle,?_⟩
 ·exact H5.keptR (put_kp (B:=B) rc5 P6 (HLp.out.ow hle (by omega)) H5.le)
 ·have c5:Ce w w5:=((Ce.of_below N1.below).trans ce2).trans (Ce.of_below b25)
  exact⟨Nat.le_trans c5.size P6.off.size,fun p hp=>(World.cell?_of_block (P6.off.block _ (Nat.lt_of_lt_of_le hp c5.size) (by omega))).trans (c5.cell p hp)⟩
end
abbrev E3:=Sc × Value × Value
def E3.A (e:E3):List Value:=(e.1.A e.2.1 e.2.2).toList
theorem E3.len (e:E3):e.A.length=13:=rfl
def flat:List E3->List Value
 | []=>[]
 | e :: l=>e.A++flat l
theorem flat_append (l m:List E3):flat (l++m)=flat l++flat m:=by
 induction l with
 | nil=>rfl
 | cons e l ih=>simp only[List.cons_append,flat,ih,List.append_assoc]
theorem flat_length (l:List E3):(flat l).length=l.length*13:=by
 induction l with
 | nil=>rfl
 | cons e l ih=>simp only[flat,List.length_append,E3.len,ih,List.length_cons];omega
theorem flat_get (l:List E3):∀ (i:Nat) (hi:i<l.length) (j:Nat),j<13->(flat l)[i*13+j]?=(l[i].A)[j]?:=by
 induction l with
 | nil=>intro i hi;exact absurd hi (Nat.not_lt_zero _)
 | cons e l ih =>
  intro i hi j hj
  cases i with
  | zero=>rw[flat,Nat.zero_mul,Nat.zero_add,List.getElem?_append_left (by rw[E3.len];exact hj)];rfl
  | succ i =>
   have:=ih i (by simpa using hi) j hj
   rw[flat,List.getElem?_append_right (by rw[E3.len];omega),E3.len,show(i+1)*13+j-13=i*13+j by omega,this]
   rfl
def Apart (v u:Value) (L:List P2):Prop:=L≠[]->∀ b off n c,u=.slice (some ⟨b,off,none⟩) n c->v.ownBlock≠some b
structure Rcs (B:Nat) (w:World) (v:Value) (ms:List Rm):Prop where
 ex:∃ es:List E3,es.length=ms.length/\w.ownsRow B 54 13 v ms.length (flat es)/\∀ i,(h1:i<es.length)->(h2:i<ms.length)->es[i].1=ms[i].s/\(Fr w es[i].2.1 (encI ms[i].im) B/\Fr w es[i].2.2 (encT ms[i].tb) B)/\Apart v es[i].2.1 (encI ms[i].im)/\Apart v es[i].2.2 (encT ms[i].tb)
section
variable {B:Nat}{w:World}
theorem Rcs.nil (B:Nat) (w:World):Rcs B w (.slice none 0 0) []:=⟨[],rfl,⟨rfl,Or.inl ⟨rfl,rfl⟩⟩,fun i h=>absurd h (Nat.not_lt_zero _)⟩
end
section
variable {w w':World}
theorem Cs.ce {a:Option Addr} {L:List P2} (h:Cs w a L) (hc:Ce w w'):Cs w' a L:=⟨fun i hi=>by
 obtain⟨b,off,e,hb,h1,h2⟩:=h.at_ i hi
 exact⟨b,off,e,Nat.lt_of_lt_of_le hb hc.size,(hc.cell _ hb).trans h1,(hc.cell _ hb).trans h2⟩⟩
end
section
variable {B:Nat}{w w':World}{v:Value}
theorem Fr.ce {L:List P2} (h:Fr w v L B) (hc:Ce w w'):Fr w' v L B:=by
 obtain⟨a,c,h0,h1,h2⟩:=h.ex
 exact⟨a,c,h0,h1.ce hc,h2⟩
end
section
variable {B:Nat}{w w':World}{v:Value}{ms:List Rm}
theorem Rcs.kept (h:Rcs B w v ms) (hc:Ce w w') (hk:∀ (j:Nat) (cur:Array Value) (fz:Nat × Nat),w.heap[j]?=some (Obj.cells cur 54 fz)->w'.heap[j]?=some (Obj.cells cur 54 fz)):Rcs B w' v ms:=by
 obtain⟨es,h1,⟨h2,h3⟩,h4⟩:=h.ex
 refine⟨es,h1,⟨h2,?_⟩,fun i a b=>?_⟩
 ·rcases h3 with h3 |⟨g,cap,cur,e,hB,hg,h5⟩
  ·exact Or.inl h3
  ·exact Or.inr ⟨g,cap,cur,e,hB,hk _ _ _ hg,h5⟩
 ·obtain⟨q1,⟨q2,q3⟩,q4⟩:=h4 i a b
  exact⟨q1,⟨q2.ce hc,q3.ce hc⟩,q4⟩
end
section
variable {B:Nat}{w w':World}{v:Value}{ms:List Rm}
theorem Rcs.below (h:Rcs B w v ms) (hb:Below w.heap.size w w'):Rcs B w' v ms:=h.kept (Ce.of_below hb) (fun j cur fz e=>(hb.block j (lt_of_some e)).trans e)
end
section
variable {B:Nat}{w:World}{v:Value}{ms:List Rm}
theorem Rcs.slice (h:Rcs B w v ms):∃ a c,v=.slice a ms.length c:=by
 obtain⟨es,h1,⟨h2,h3⟩,h4⟩:=h.ex
 rcases h3 with⟨rfl,h3⟩ |⟨g,cap,cur,e,hB,hg,h5⟩
 ·exact⟨none,0,by rw[h3]⟩
 ·exact⟨_,_,e⟩
end
section
variable {B:Nat}{w:World}{A:Obj->Prop}{ms:List Rm}
theorem Rcs.at_ {a:Option Addr} {n c:Nat} (h:Rcs B w (.slice a n c) ms) {i:Nat} (hi:i<ms.length):∃ g I T,a=some ⟨g,0,none⟩/\w.rangeAt g (i*13) ((ms[i].s.A I T).toList)/\RecF w (.agg (ms[i].s.A I T)) ms[i] B:=by
 obtain⟨es,h1,⟨h2,h3⟩,h4⟩:=h.ex
 rcases h3 with⟨_,h3⟩ |⟨g,cap,cur,e,hB,hg,h5,h6,h7,h8⟩
 ·omega
 ·cases e
  have hi1:i<es.length:=by omega
  obtain⟨q1,⟨q2,q3⟩,q4⟩:=h4 i hi1 hi
  refine⟨g,es[i].2.1,es[i].2.2,rfl,?_,⟨_,_,rfl,q2,q3⟩⟩
  intro j u hu
  have hj:j<13:=by
   have:=(List.getElem?_eq_some_iff.1 hu).1
   exact this
  rw[Lib.cell_of_heap hg]
  have:=flat_get es i hi1 j hj
  rw[← h8,List.getElem?_take,if_pos (by have:=flat_length es;have:=h2;omega)] at this
  rw[← Array.getElem?_toList,this,← hu,← q1]
  rfl
end
section
variable {A:Obj->Prop}
theorem infoRec:∃ i,Tryz.prog.info? 54=some i/\i.zero=some (.agg (zS.A nilV nilV))/\i.size=13/\i.bytes=160 :=
 info_parts (show(Tryz.prog.info? 54).map (fun i=>(i.zero,i.size,i.bytes))=some (some (.agg (zS.A nilV nilV)),13,160) by kernel_rfl)
end
section
variable {A:Obj->Prop}
theorem rec_one {m:Rm} {I T:Value} (hI:I.oneCell'=true) (hT:T.oneCell'=true):∀ u∈(m.s.A I T).toList,u.oneCell'=true:=by
 intro u hu
 simp[Sc.A] at hu
 rcases hu with rfl |rfl |rfl |rfl |rfl |rfl |rfl |rfl |rfl |rfl |rfl |rfl |rfl
 all_goals first |rfl |exact hI |exact hT
end
section
variable {B run:Nat}{w w':World}{A:Obj->Prop}{v:Value}{ms:List Rm}
theorem append_rcs (h:Rcs B w v ms) {g:Nat} {m:Rm} {I T:Value} (hg:RcAt w g m.s I T) (hI:I.oneCell'=true) (hT:T.oneCell'=true) (hB:B<=w.heap.size) (hl:ms.length<=100000) (ty:TypeId) (es:List E3) (hrow:w.ownsRow B 54 13 v ms.length (flat es)) :
  ∃ v' w',(Builtin.append_ #[43,43] ty #[v,.slice (some ⟨g,0,none⟩) 1 1]).run Tryz.prog w=.ok v' w'/\w'.ownsRow B 54 13 v' (ms.length+1) (flat es++E3.A (m.s,I,T))/\w.grownBy w' v.ownBlock/\(v'.ownBlock=v.ownBlock∨v'.ownBlock=some w.heap.size):=by
 obtain⟨i,hi,hz0,hz1,hz2⟩:=infoRec
 have hnews:∀ j u,(E3.A (m.s,I,T))[j]?=some u->w.cell? ((⟨g,0,none⟩:Addr).add j)=some u:=by
  intro j u hu
  have hadd:(⟨g,0,none⟩:Addr).add j=⟨g,j,none⟩:=by unfold Addr.add;split <;> simp_all
  rw[hadd,Joins.cell_of_block hg.blk,← Array.getElem?_toList]
  exact hu
 have h1:∀ u∈E3.A (m.s,I,T),u.oneCell'=true:=rec_one (m:=m) hI hT
 obtain⟨v',w',hr,ho,hgr,_⟩:=run_append_own (P:=Tryz.prog) w B 43 ty 54 i (.agg (zS.A nilV nilV)) 13 160 Tryz.underlying43 hi hz0 hz1 hz2 rfl (by omega) v ms.length (flat es) hrow ⟨g,0,none⟩ 1 1 (E3.A (m.s,I,T)) rfl hnews h1 (by unfold maxLen;omega) (by omega) hB
 refine⟨v',w',hr,ho,hgr,?_⟩
 have hl1:(E3.A (m.s,I,T)).length=1*i.size:=by rw[hz1];rfl
 rcases hrow.2 with⟨rfl,hn⟩ |⟨b,cap,cur,rfl,hbg,hgg,hnc,hcm,hcs,htake⟩
 ·have hr2:=run_append_nil (P:=Tryz.prog) w 43 ty 54 i (.agg (zS.A nilV nilV)) Tryz.underlying43 hi hz0 ⟨g,0,none⟩ 1 1 (E3.A (m.s,I,T)) hl1 hnews (by omega) (by omega) (by rw[hz2];omega)
  rw[hr2] at hr
  injection hr with e1 e2
  subst e1
  exact Or.inr rfl
 ·by_cases hroom:ms.length+1<=cap
  ·have hr2:=run_append_room (P:=Tryz.prog) w 43 ty 54 i Tryz.underlying43 hi b ms.length cap cur hgg ⟨g,0,none⟩ 1 1 (E3.A (m.s,I,T)) hl1 hnews h1 hroom (by rw[hz1,hcs,E3.len];omega)
   rw[hr2] at hr
   injection hr with e1 e2
   subst e1
   exact Or.inl rfl
  ·have holds:∀ j u,(flat es)[j]?=some u->w.cell? ((⟨b,0,none⟩:Addr).add j)=some u:=by
    intro j u hu
    have hadd:(⟨b,0,none⟩:Addr).add j=⟨b,j,none⟩:=by unfold Addr.add;split <;> simp_all
    rw[hadd,cell_of_row w b j cur 54 (0,0) hgg]
    rw[← htake,List.getElem?_take] at hu
    split at hu
    ·simpa using hu
    ·cases hu
   have hr2:=run_append_grow (P:=Tryz.prog) w 43 ty 54 i (.agg (zS.A nilV nilV)) Tryz.underlying43 hi hz0 ⟨b,0,none⟩ ms.length cap (flat es) (by rw[hz1,hrow.1]) holds ⟨g,0,none⟩ 1 1 (E3.A (m.s,I,T)) hl1 hnews (by omega) (by omega) (by rw[hz2];exact growslice_fits (by omega) (by omega))
   rw[hr2] at hr
   injection hr with e1 e2
   subst e1
   exact Or.inr rfl
end
section
variable {B:Nat}{w w':World}{v:Value}
theorem Fr.grown {u:Value} {L:List P2} (h:Fr w u L B) (ha:Apart v u L) (hg:w.grownBy w' v.ownBlock):Fr w' u L B:=by
 obtain⟨a,c,h0,h1,h2⟩:=h.ex
 refine⟨a,c,h0,⟨fun i hi=>?_⟩,h2⟩
 obtain⟨b,off,e,hb,q1,q2⟩:=h1.at_ i hi
 have hne:L≠[]:=fun e=>by rw[e] at hi;exact absurd hi (Nat.not_lt_zero _)
 have hbk:w'.heap[b]?=w.heap[b]?:=hg.block b hb (fun e2=>ha hne b off _ _ (by rw[h0,e]) e2.symm)
 exact⟨b,off,e,Nat.lt_of_lt_of_le hb hg.size,(World.cell?_of_block (by exact hbk)).trans q1,(World.cell?_of_block (by exact hbk)).trans q2⟩
end
section
variable {B:Nat}{w:World}
theorem Fr.lt {u:Value} {L:List P2} (h:Fr w u L B) (hL:L≠[]) {b off n c:Nat} (e:u=.slice (some ⟨b,off,none⟩) n c):b<w.heap.size:=by
 obtain⟨a,c',h0,h1,h2⟩:=h.ex
 have hi:0<L.length:=List.length_pos_iff.2 hL
 obtain⟨b',off',e',hb,_⟩:=h1.at_ 0 hi
 rw[h0] at e
 injection e with e1 _ _
 rw[e'] at e1
 injection e1 with e1
 injection e1 with e1
 omega
end
section
variable [Inhabited PrSet]{B:Nat}{w w':World}{A:Obj->Prop}{v:Value}{ms:List Rm}
theorem wpList_append_rcs {ops:Array Oper} {rest:List Oper} {o:Oper} {act:Act} {Q:Exit->Act->World->Prop} (hgd:o.guard=none) (s x:Operand)
  (ho:o.op=.call {callee:=.builtin .append,args:=#[s,x],argTypes:=#[43,43]}) (hs:act.eval s=v) (h:Rcs B w v ms)
  {g:Nat} {m:Rm} {I T:Value} (hx:act.eval x=.slice (some ⟨g,0,none⟩) 1 1) (hg:RcAt w g m.s I T) (hI:Fr w I (encI m.im) B) (hT:Fr w T (encT m.tb) B) (hA1:Apart v I (encI m.im)) (hA2:Apart v T (encT m.tb)) (hB:B<=w.heap.size) (hl:ms.length<=100000) (hnp:∀ j,B<=j->np j)
  (K:∀ v' w',Rcs B w' v' (ms++[m])->Kp isR B w w'->wpList Tryz.prog ops Q rest (act.put o.dst v') w'):wpList Tryz.prog ops Q (o ::rest) act w:=by
 refine wpList_plain hgd fun K' hK=>?_
 obtain⟨es,h1,hrow,h4⟩:=h.ex
 obtain⟨v',w',hr,h2,hgr,hown⟩:=append_rcs h hg hI.slI.one hT.slT.one hB hl o.type es hrow
 have hC:∀ j,v.ownBlock=some j->B<=j/\∃ cur,w.heap[j]?=some (.cells cur 54 (0,0)):=by
  intro j e
  rcases hrow.2 with⟨rfl,_⟩ |⟨b,cap,cur,rfl,hbg,hgg,_⟩
  ·simp[Value.ownBlock] at e
  ·simp[Value.ownBlock] at e
   subst e
   exact⟨hbg,cur,hgg⟩
 have hk:Kp isR B w w':=by
  refine⟨(Below.refl B w).grown hgr hB (fun j e=>(hC j e).1),fun j ob e hnr=>(hgr.block j (lt_of_some e) (fun e2=>?_)).trans e,fun j ob e hnr=>(hgr.block j (lt_of_some e) (fun e2=>hnp j (hC j e2.symm).1 hnr)).trans e⟩
  obtain⟨_,cur,e3⟩:=hC j e2.symm
  rw[e] at e3;cases e3;exact hnr rfl
 have hap:∀ {u:Value} {L:List P2},Fr w u L B->Apart v u L->Apart v' u L:=fun hF hA hne b off n c e=>by
  rcases hown with e2 |e2
  ·rw[e2];exact hA hne b off n c e
  ·rw[e2]
   intro e3
   injection e3 with e3
   have:=hF.lt hne e
   omega
 have hR:Rcs B w' v' (ms++[m]):=by
  refine⟨es++[(m.s,I,T)],by simp[h1],?_,fun i a b=>?_⟩
  ·rw[List.length_append,List.length_singleton,flat_append,show flat [(m.s,I,T)]=E3.A (m.s,I,T) from by simp[flat]]
   exact h2
  ·rcases Nat.lt_or_ge i ms.length with hi |hi
   ·rw[List.getElem_append_left (by omega),List.getElem_append_left hi]
    obtain⟨q1,⟨q2,q3⟩,q4,q5⟩:=h4 i (by omega) hi
    exact⟨q1,⟨q2.grown q4 hgr,q3.grown q5 hgr⟩,hap q2 q4,hap q3 q5⟩
   ·have hi2:i=ms.length:=by rw[List.length_append,List.length_singleton] at b;omega
    subst hi2
    rw[List.getElem_append_right (by omega),List.getElem_append_right (Nat.le_refl _)]
    simp only[h1,Nat.sub_self,List.getElem_singleton]
    exact⟨trivial,⟨hI.grown hA1 hgr,hT.grown hA2 hgr⟩,hap hI hA1,hap hT hA2⟩
 unfold Oper.wp execOp
 simp only[ho,resolve,invoke,builtin,Sem.run_bind,Sem.run_pure,Result.andThen_ok,List.map_toArray,List.map_cons,List.map_nil,hs,hx,hr]
 exact hK _ _ (K v' w' hR hk)
end
section
variable {run:Nat}{w:World}{A:Obj->Prop}
theorem run_build_rc (s:Sc) (I T:Value) (w:World):(Instr.buildSlice 43 1 #[(0,.agg (s.A I T))]).run Tryz.prog w=.ok (.slice (some ⟨w.heap.size,0,none⟩) 1 1) (w.alloc (.cells (s.A I T) 54)):=by kernel_rfl
end
section
variable {w w':World}{A:Obj->Prop}
theorem wpList_build_rc {ops:Array Oper} {rest:List Oper} {o:Oper} {act:Act} {Q:Exit->Act->World->Prop} {s:Sc} {I T:Value} (w:World) (hg:o.guard=none) (x:Operand) (hop:o.op=Op.buildSlice 43 1 #[(0,x)]) (hx:act.eval x=.agg (s.A I T))
  (h:∀ w' b,NewR w w' b s I T->wpList Tryz.prog ops Q rest (act.put o.dst (.slice (some ⟨b,0,none⟩) 1 1)) w'):wpList Tryz.prog ops Q (o ::rest) act w:=by
 refine wpList_plain hg fun K' hK'=>?_
 have hr:=run_build_rc s I T w
 unfold Oper.wp execOp
 simp only[hop,List.map_toArray,List.map_cons,List.map_nil,hx,Sem.run_bind,Sem.run_pure,Result.andThen_ok,hr]
 exact hK' _ _ (h _ _ ⟨⟨(MapKept.heap_alloc w _).1⟩,(Below.refl _ _).alloc (Nat.le_refl _) _,rfl⟩)
end
section
variable {C:Nat}{w:World}{v:Value}
theorem Fr.apart {u:Value} {L:List P2} (h:Fr w u L C) (hs:∀ j,v.ownBlock=some j->j<C):Apart v u L:=fun _ b off n c e e2=>by
 obtain⟨a,c',h0,h1,h2,h3,h4,h5⟩:=h.ex
 rw[h0] at e
 injection e with e1 _ _
 have:=h5 b off e1
 have:=hs b e2
 omega
end
section
variable {fs:List ByteArray}
theorem open_at {fs:List ByteArray} (hF:∀ f∈fs,Frm f) {i:Nat} (hi:i<fs.length):openM (cat fs) (off fs i:Int)=(recF fs[i],(fs[i].size:Int),0):=by
 have e:cat fs=cat (fs.take i)++fs[i]++cat (fs.drop (i+1)):=by
  have:fs=fs.take i++([fs[i]]++fs.drop (i+1)):=by
   rw[List.singleton_append,List.getElem_cons_drop,List.take_append_drop]
  conv=>lhs;rw[this]
  rw[cat_append,cat_append,cat,cat,app_nil,ByteArray.append_assoc]
 rw[e]
 exact(hF fs[i] (List.getElem_mem _)).open_ _ _
end
section
variable {B:Nat}{w w':World}{v:Value}
theorem clone_any {ps:List Int} (h:OwnI B w v ps) (hl:ps.length<=1000000):Calls Tryz.prog 44 #[v] w fun e w'=>(∃ v',e=.returned v'/\OwnI w.heap.size w' v' ps)/\Below w.heap.size w w':=by
 rcases h.row.2 with⟨rfl,hn⟩ |⟨g,cap,cur,rfl,hbg,hgg,hnc,hcm,hcs,htake⟩
 ·have:ps=[]:=List.eq_nil_of_length_eq_zero hn
  subst this
  refine(Tryz.slices_Clone_int_nil 0 0 w).mono ?_
  rintro e w' ⟨he,rfl⟩
  exact⟨⟨_,he,OwnI.nil _ _⟩,Below.refl _ _⟩
 ·refine(Tryz.slices_Clone_int g 0 ps.length cap ps w (Nat.le_refl _) (by omega) (fun j hj=>by
   rw[Nat.zero_add,Lib.cell_of_heap hgg]
   have:(iv ps)[j]?=some (.int .i64 ps[j]):=by simp[iv,hj]
   rw[← htake,List.getElem?_take,if_pos (by omega)] at this
   rw[List.getD_eq_getElem?_getD,List.getElem?_eq_getElem hj]
   simpa using this)).mono ?_
  rintro e w' ⟨v',he,hr,_,hb⟩
  rw[List.take_length] at hr
  exact⟨⟨v',he,⟨hr⟩⟩,hb⟩
end
end Go.Proofs.YtdchjncnjgelhaaGreat
