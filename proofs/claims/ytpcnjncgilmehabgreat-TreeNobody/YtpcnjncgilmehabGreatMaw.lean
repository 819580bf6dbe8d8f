import Derived.Test.YtpcnjncgilmehabGreatMav
import Derived.Deep.Slices
import Derived.Deep.RegionLaw
set_option linter.unusedVariables false
set_option linter.unusedSimpArgs false
set_option maxRecDepth 100000
namespace Go.Proofs.YtpcnjncgilmehabGreat.Pg
open Go.RowKit
def prs:List Cl->List Value
 | []=>[]
 | c :: r=>.string c.k :: .string c.v :: prs r
theorem prs_length:∀ xs:List Cl,(prs xs).length=xs.length*2
 | []=>rfl
 | c :: r=>by simp only[prs,List.length_cons,prs_length r];omega
theorem prs_append:∀ xs ys:List Cl,prs (xs++ys)=prs xs++prs ys
 | [],_=>rfl
 | c :: r,ys=>by simp only[List.cons_append,prs,prs_append r ys]
def own (a:Option Addr):Option Nat:=a.map (·.block)
structure Sl (w:World) (a:Option Addr) (cap:Nat) (L:List Cl):Prop where
 cs:Cs w a L
 room:L.length<=cap
 nil:a=none->cap=0
 form:a=none∨∃ b o,a=some ⟨b,o,none⟩
theorem Sl.below {w w':World} {a:Option Addr} {cap:Nat} {L:List Cl} (h:Sl w a cap L) (hb:Below w.heap.size w w'):Sl w' a cap L:=⟨h.cs.below hb,h.room,h.nil,h.form⟩
section
variable {w:World}{a:Option Addr}{cap:Nat}{L:List Cl}
theorem Cs.take (h:Cs w a L) (i:Nat):Cs w a (L.take i):=⟨fun j hj=>by
 rw[List.length_take] at hj
 obtain⟨b,off,h0,h1,h2,h3⟩:=h.at_ j (by omega)
 exact⟨b,off,h0,h1,by rw[List.getElem_take];exact h2,by rw[List.getElem_take];exact h3⟩⟩
theorem Sl.to (h:Sl w a cap L) (i:Nat) (hi:i<=L.length):(∀ W,(Instr.slice 56 (.slice a L.length cap) none (some (.int .i64 (i:Int))) none).run Tryz.prog W=.ok (.slice a i cap) W)/\Sl w a cap (L.take i):=by
 refine⟨fun W=>?_,⟨h.cs.take i,by have:=h.room;rw[List.length_take];omega,h.nil,h.form⟩⟩
 have hr:=run_slice_h (P:=Tryz.prog) W 56 a L.length cap (by kernel_rfl) .i64 (i:Int) (by omega) (by have:=h.room;omega)
 have hz:∀ w,(Go.sizeOf (Tryz.prog.elem 56)).run Tryz.prog w=.ok 2 w:=fun w=>by kernel_rfl
 rw[hr,hz]
 simp only[Result.andThen,sliced,Int.toNat_natCast,Nat.sub_zero,Nat.zero_mul]
 rcases h.form with rfl |⟨b,o,rfl⟩
 ·split <;> rfl
 ·split
  ·rfl
  ·simp[Addr.add_mid]
theorem Sl.from(h:Sl w a cap L) (i:Nat) (x:Int) (hx:x=(i:Int)) (hi:i<=L.length):∃ a',(∀ W,(Instr.slice 56 (.slice a L.length cap) (some (.int .i64 x)) none none).run Tryz.prog W=.ok (.slice a' (L.length-i) (cap-i)) W)/\Sl w a' (cap-i) (L.drop i):=by
 subst hx
 have hc:=h.room
 have hz:∀ w,(Go.sizeOf (Tryz.prog.elem 56)).run Tryz.prog w=.ok 2 w:=fun w=>by kernel_rfl
 have hr:∀ W,(Instr.slice 56 (.slice a L.length cap) (some (.int .i64 (i:Int))) none none).run Tryz.prog W=.ok (.slice (if cap=i then a else a.map (·.add (i*2))) (L.length-i) (cap-i)) W:=fun W=>by
  rw[run_slice_l (P:=Tryz.prog) W 56 a L.length cap (by kernel_rfl) .i64 (i:Int) (by omega) (by omega),hz]
  simp only[Result.andThen,sliced,Int.toNat_natCast]
 by_cases e:cap=i
 ·have hL:L.drop i=[]:=List.drop_eq_nil_of_le (by omega)
  refine⟨a,fun W=>by rw[hr W,if_pos e],⟨by rw[hL];exact Cs.nil w a,by rw[hL];simp,fun _=>by omega,h.form⟩⟩
 ·rcases h.form with hn |⟨b,o,rfl⟩
  ·have:=h.nil hn
   have:i=0:=by omega
   omega
  ·refine⟨some ⟨b,o+i*2,none⟩,fun W=>by rw[hr W,if_neg e,Option.map_some,Addr.add_mid],⟨⟨fun j hj=>?_⟩,by rw[List.length_drop];omega,fun e=>(by cases e),Or.inr ⟨b,o+i*2,rfl⟩⟩⟩
   rw[List.length_drop] at hj
   obtain⟨b',o',h0,h1,h2,h3⟩:=h.cs.at_ (i+j) (by omega)
   cases h0
   refine⟨b,o+i*2,rfl,h1,?_,?_⟩
   ·rw[List.getElem_drop,show o+i*2+j*2=o+(i+j)*2 by omega];exact h2
   ·rw[List.getElem_drop,show o+i*2+j*2+1=o+(i+j)*2+1 by omega];exact h3
end
structure IsH (L:List Cl) (n:Nat):Prop where
 one:1<=n
 lt:n<L.length
 over:needs L<2*needs (L.take (n+1))
 under:∀ m,1<=m->m<n->2*needs (L.take (m+1))<=needs L
theorem IsH.unique {L:List Cl} {a b:Nat} (h:IsH L a) (k:IsH L b):a=b:=by
 rcases Nat.lt_trichotomy a b with e |e |e
 ·have:=k.under a h.one e
  have:=h.over
  omega
 ·exact e
 ·have:=h.under b k.one e
  have:=k.over
  omega
theorem needs_pos {L:List Cl} (h:2<=L.length):0<needs L:=by have:=three_le L;omega
set_option maxHeartbeats 1000000 in
theorem halfOf_any (w:World) {a:Option Addr} {cap:Nat} {L:List Cl} (h:Sl w a cap L) (hs:Small L) (h2:2<=L.length) (n:Nat) (hn:IsH L n):Calls Tryz.prog 168 #[.slice a L.length cap] w fun e w'=>e=.returned (.int .i64 (n:Int))/\Below w.heap.size w w':=by
 have hp:=needs_pos h2
 have hln:=hs.len
 have hall:=hs.nle L.length
 rw[List.take_length] at hall
 have C1:Hid (∀ w,Sl w a cap L->Calls Tryz.prog 166 #[.slice a L.length cap] w fun e w'=>e=.returned (.int .i64 (needs L:Nat))/\Below w.heap.size w w'):=fun w h=>needOf_any w cap h.cs hs
 obtain⟨a2,s1,t1⟩:=h.from 1 1 rfl (by omega)
 have T1:Hid _:=t1
 have H:Hid _:=h
 obtain⟨b,off,ha,hbl,q0,q1⟩:=h.cs.at_ 0 (by omega)
 rw[Nat.zero_mul,Nat.add_zero] at q0 q1
 have CN:Hid (∀ i (hi:i<L.length) w,Calls Tryz.prog 79 #[.agg #[.string L[i].k,.string L[i].v]] w fun e w'=>e=.returned (.int .i64 (need L[i]))/\Below w.heap.size w w'):=(fun i hi w=>Need_any w _ (by have:=hs.k _ (List.getElem_mem hi);omega) (by have:=hs.v _ (List.getElem_mem hi);omega):∀ i (hi:i<L.length) w,Calls Tryz.prog 79 #[.agg #[.string L[i].k,.string L[i].v]] w fun e w'=>e=.returned (.int .i64 (need L[i]))/\Below w.heap.size w w')
 have C0:Hid _:=CN.out 0 (by omega)
 have hn0:need L[0]=needs (L.take 1):=by
  have:=needs_take_succ (L:=L) (i:=0) (by omega)
  simp only[List.take_zero,needs,Nat.zero_add] at this
  exact this.symm
 rw[hn0] at C0
 have h1le:=hs.nle 1
 have HN:Hid _:=hn
 clear h t1 hn hn0
 subst ha
 have hlI:(1:Int)<=(L.length:Int):=by omega
 generalize hc0:L[0]=c0 at *
 clear hc0
 go_enter Tryz.func168,Tryz.ntmps168
 go_wp2_with (first |(go_at_call 166;refine(C1.out _ H.out).mono ?_;rintro e w1 ⟨rfl,hb1⟩;have d0:=(hb1.cell (by exact hbl)).trans q0;have d1:=(hb1.cell (by exact hbl)).trans q1) |(go_at_call 79;refine(C0.out _).mono ?_;rintro e w2 ⟨rfl,hb2⟩))
 have hb2':=thn hb1 hb2
 go_loopw [4,5,17] (fun s4 s5 s17 wr=>∃ t:Nat,s17=.int .i64 (t:Int)/\s4=.int .i64 ((t:Int)+1)/\s5=.int .i64 (needs (L.take (t+1)):Nat)/\t<=L.length-1/\Hid (∀ m,1<=m->m<=t->2*needs (L.take (m+1))<=needs L)/\Below w.heap.size w wr) (fun _ _ s17 _=>L.length-(intOf s17).toNat)
 case atStart=>exact⟨0,rfl,rfl,rfl,by omega,(fun m h1 h2=>by omega:∀ m,1<=m->m<=0->2*needs (L.take (m+1))<=needs L),hb2'⟩
 case round =>
  obtain⟨t,rfl,rfl,rfl,ht,hun,hbel⟩:=hrel
  by_cases hlt:t<L.length-1
  ·have hltI:(t:Int)<((L.length-1:Nat):Int):=by omega
   obtain⟨b2,off2,ha2,hbl2,c0',c1'⟩:=T1.out.cs.at_ t (by rw[List.length_drop];exact hlt)
   have hge:(L.drop 1)[t]'(by rw[List.length_drop];exact hlt)=L[t+1]'(by omega):=by rw[List.getElem_drop];congr 1;omega
   rw[hge] at c0' c1'
   have e0:=(hbel.cell (by exact hbl2)).trans c0'
   have e1:=(hbel.cell (by exact hbl2)).trans c1'
   have CT:Hid _:=CN.out (t+1) (by omega)
   have hst:=needs_take_succ (L:=L) (i:=t+1) (by omega)
   have hm1:=hs.nle (t+1)
   have hm2:=hs.nle (t+2)
   subst ha2
   clear hge c0' c1'
   obtain⟨m1,hm1'⟩:∃ m,m=needs (L.take (t+1)):=⟨_,rfl⟩
   obtain⟨m2,hm2'⟩:∃ m,m=needs (L.take (t+2)):=⟨_,rfl⟩
   obtain⟨nd,hnd⟩:∃ m,m=need (L[t+1]'(by omega)):=⟨_,rfl⟩
   rw[← hm1',← hnd] at hst
   rw[show t+1+1=t+2 from rfl,← hm2'] at hst
   rw[← hm1'] at hm1 ⊢
   rw[← hm2'] at hm2
   rw[← hnd] at CT
   have HM2:Hid _:=hm2'
   generalize L[t+1]=c at *
   clear hm1' hm2' hnd
   have hst':Hid ((m1:Int)+(nd:Int)=(m2:Int)):=(by omega:(m1:Int)+(nd:Int)=(m2:Int))
   have hm1b:m1<=100000:=by omega
   have hndb:nd<=100000:=by omega
   have HST:Hid _:=hst
   clear hm1 hm2 hst
   by_cases ho:needs L<2*m2
   ·have hoI:(needs L:Int)<2*((m1:Int)+(nd:Int)):=by have:=HST.out;omega
    have hE:Hid (t+1=n):=by
     have:IsH L (t+1):=⟨by omega,by omega,by rw[show t+1+1=t+2 from rfl,← HM2.out];exact ho,fun m h1 h2=>hun.out m h1 (by omega)⟩
     exact this.unique HN.out
    generalize needs L=all at *
    go_wp2_with (go_at_call 79;refine(CT.out _).mono ?_;rintro e w5 ⟨rfl,hb5⟩)
    go_ret
    exact⟨by rw[← hE.out];rfl,thn (thnA hbel _) hb5⟩
   ·have hoI:¬ (needs L:Int)<2*((m1:Int)+(nd:Int)):=by have:=HST.out;omega
    have hun2:Hid (∀ m,1<=m->m<=t+1->2*needs (L.take (m+1))<=needs L):=(fun m h1 h2=>by
     by_cases e:m=t+1
     ·subst e;rw[show t+1+1=t+2 from rfl,← HM2.out];omega
     ·exact hun.out m h1 (by omega):∀ m,1<=m->m<=t+1->2*needs (L.take (m+1))<=needs L)
    go_wp2_with (go_at_call 79;refine(CT.out _).mono ?_;rintro e w5 ⟨rfl,hb5⟩)
    exact⟨⟨t+1,by go_num,by simp,by rw[show t+1+1=t+2 from rfl,← HM2.out];exact congrArg (Value.int .i64) hst'.out,by omega,hun2,thn (thnA hbel _) hb5⟩,by simp[intOf];omega⟩
  ·exfalso
   have:=hun.out (L.length-1) (by omega) (by omega)
   rw[show L.length-1+1=L.length by omega,List.take_length] at this
   omega
end Go.Proofs.YtpcnjncgilmehabGreat.Pg
