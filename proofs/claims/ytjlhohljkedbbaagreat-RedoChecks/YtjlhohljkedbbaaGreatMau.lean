import Derived.Test.YtjlhohljkedbbaaGreatMat
import Derived.Test.YtjlhohljkedbbaaGreatMaq
set_option linter.unusedVariables false
set_option linter.unusedSimpArgs false
set_option maxRecDepth 100000
namespace Go.Proofs.YtjlhohljkedbbaaGreat.Lg
open Go.RowKit
def ckS:Sc:={zS with kd:=9}
def ckM (l:List Tb):Rm:=⟨ckS,[],l⟩
theorem lay_tb:∀ (l:List Tb) (a:ByteArray),(∀ p∈l,goodB p)->∃ X,layB l (a,0)=(X,0)/\X.size=a.size+12*l.length
 | [],a,_=>⟨a,rfl,by simp⟩
 | p :: r,a,h=>by
  obtain⟨h1,h2,h3,h4⟩:=h p (by simp)
  obtain⟨X,e1,e2⟩:=lay_tb r (a++Pk.beS p.1.toNat 6++Pk.beS p.2.toNat 6) (fun q hq=>h q (by simp[hq]))
  refine⟨X,?_,?_⟩
  ·rw[← e1]
   show layB r (stepW (stepW (a,0) p.1 6) p.2 6)=_
   rw[stepW_good (by omega) (by omega) h1 (by rw[Pk.limI_6];omega),stepW_good (by omega) (by omega) h3 (by rw[Pk.limI_6];omega)]
   rfl
  ·rw[e2]
   simp only[ByteArray.size_append,Pk.beS_size,List.length_cons]
   omega
theorem frame_ck {l:List Tb} (h:∀ p∈l,goodB p) (hl:l.length<=200):(frameM (ckM l)).2=0/\recF (frameM (ckM l)).1=ckM l:=by
 have e:laidM (ckM l)=layB l (stepW (stepW (⟨#[]⟩,0) 9 1) (l.length:Int) 1):=rfl
 obtain⟨X,h1,h2⟩:=lay_tb l (⟨#[]⟩++Pk.beS (9:Int).toNat (1:Int).toNat++Pk.beS ((l.length:Int)).toNat (1:Int).toNat) h
 rw[stepW_good (by omega) (by omega) (by omega) (by rw[Pk.limI_1];omega),stepW_good (by omega) (by omega) (by omega) (by rw[Pk.limI_1];omega),h1] at e
 have hX:X.size=2+12*l.length:=by
  rw[h2]
  simp only[ByteArray.size_append,Pk.beS_size,Pk.size_nil]
  rfl
 have hc:cleanM (ckM l)=ckM l:=by simp[cleanM,cleanS,ckM,ckS,zS]
 have hr:refM (ckM l)=0:=by simp[refM,formed,ckM,ckS,zS,Pk.size_nil]
 have hb:bodyM (cleanM (ckM l))=(X,0):=by
  rw[hc,bodyM_good hr (by rw[e]) (by rw[e];show ¬ 4096<X.size;omega),e]
 have hf:frameM (ckM l)=(frameB X,0):=by
  unfold frameM
  rw[hb]
  simp
 rw[hf]
 refine⟨rfl,?_⟩
 have h0:=open_frame hb ⟨#[]⟩ ⟨#[]⟩
 rw[nil_app,app_nil] at h0
 have h3:openM (frameB X) 0=(cleanM (ckM l),6+(X.size:Int),0):=h0
 unfold recF
 rw[h3,hc]
theorem goodB_wf {p:Tb} (h:goodB p):wfI p.1:=wfI_of h.1 h.2.1
open Go.RowKit Go.Maps Go.Sort Go.Shelf
structure Eg (A B:List Rq.SpL):Prop where
 a:(A.map (·.1)).Nodup
 b:(B.map (·.1)).Nodup
 f:∀ l,gF A l=gF B l
theorem Eg.step {A B:List Rq.SpL} (h:Eg A B) (s:Sc) (x:Int):Eg (stepG s x A) (stepG s x B):=by
 refine⟨stepG_nd h.a,stepG_nd h.b,fun l=>?_⟩
 have hf:gF A=gF B:=funext h.f
 unfold stepG
 split
 ·rw[gF_put,gF_put,hf]
 ·split
  ·rw[gF_drop,gF_drop,hf]
  ·exact h.f l
theorem Eg.tb {A B:List Rq.SpL} (h:Eg A B) (fs:List ByteArray) (k:Nat):∀ i,Eg (tbM fs k A i) (tbM fs k B i)
 | 0=>h
 | i+1=>by
  unfold tbM
  split
  ·exact h
  ·exact(h.tb fs k i).step _ _
theorem gL_eq {A B:List Rq.SpL} {t:Int} (h:gF A (.int .i64 t)=gF B (.int .i64 t)):gL A t=gL B t:=by
 rw[gF_int,gF_int] at h
 unfold gL
 cases h1:A.find? (fun s=>s.1==t) <;> cases h2:B.find? (fun s=>s.1==t) <;> simp_all
theorem Eg.keys {A B:List Rq.SpL} (h:Eg A B):(A.map (·.1)).Perm (B.map (·.1)):=by
 refine(List.perm_ext_iff_of_nodup h.a h.b).2 fun t=>?_
 have h1:=gF_some (G:=A) (.int .i64 t)
 have h2:=gF_some (G:=B) (.int .i64 t)
 rw[h.f] at h1
 constructor
 ·intro ht
  obtain⟨u,hu,e⟩:=h2.1 (h1.2 ⟨t,ht,rfl⟩)
  cases e
  exact hu
 ·intro ht
  obtain⟨u,hu,e⟩:=h1.1 (h2.2 ⟨t,ht,rfl⟩)
  cases e
  exact hu
theorem Eg.tab {A B:List Rq.SpL} (h:Eg A B):tabL A=tabL B:=by
 have e:srt (A.map (·.1))=srt (B.map (·.1)):=mergeSort_of_perm_i h.keys
 unfold tabL
 rw[e]
 exact List.map_congr_left fun t _=>by rw[gL_eq (h.f _)]
theorem find_nd {G:List Rq.SpL} (h:(G.map (·.1)).Nodup) {s:Rq.SpL} (hs:s∈G):G.find? (fun q=>q.1==s.1)=some s:=by
 induction G with
 | nil=>cases hs
 | cons p G ih =>
  rw[List.map_cons,List.nodup_cons] at h
  rcases List.mem_cons.1 hs with rfl |hs
  ·rw[List.find?_cons_of_pos (by simp)]
  ·have hne:p.1≠s.1:=fun e=>h.1 (by rw[e];exact List.mem_map.2 ⟨s,hs,rfl⟩)
   rw[List.find?_cons_of_neg (by simpa using hne),ih h.2 hs]
theorem tabL_perm {G:List Rq.SpL} (h:(G.map (·.1)).Nodup):(tabL G).Perm G:=by
 have h1:(srt (G.map (·.1))).Perm (G.map (·.1)):=List.mergeSort_perm _ _
 have h2:=h1.map (fun t=>(t,gL G t))
 refine h2.trans (List.Perm.of_eq ?_)
 rw[List.map_map]
 conv=>rhs;rw[← List.map_id G]
 refine List.map_congr_left fun s hs=>?_
 show(s.1,gL G s.1)=s
 unfold gL
 rw[find_nd h hs]
 rfl
theorem Eg.of_perm {A B:List Rq.SpL} (h:A.Perm B) (hb:(B.map (·.1)).Nodup):Eg A B:=by
 have ha:(A.map (·.1)).Nodup:=(h.map (·.1)).nodup_iff.2 hb
 refine⟨ha,hb,fun l=>?_⟩
 by_cases hl:∃ t,l=.int .i64 t
 ·obtain⟨t,rfl⟩:=hl
  rw[gF_int,gF_int]
  by_cases ht:∃ s∈A,s.1=t
  ·obtain⟨s,hs,rfl⟩:=ht
   rw[find_nd ha hs,find_nd hb (h.mem_iff.1 hs)]
  ·have n1:A.find? (fun q=>q.1==t)=none:=List.find?_eq_none.2 fun s hs e=>ht ⟨s,hs,by simpa using e⟩
   have n2:B.find? (fun q=>q.1==t)=none:=List.find?_eq_none.2 fun s hs e=>ht ⟨s,h.mem_iff.2 hs,by simpa using e⟩
   rw[n1,n2]
 ·cases l <;> try rfl
  rename_i q u
  cases q <;> try rfl
  exact absurd ⟨u,rfl⟩ hl
theorem gD_id {G:List Rq.SpL} {t:Int} (h:t ∉ G.map (·.1)):gD G t=G:=by
 unfold gD
 refine List.filter_eq_self.2 fun s hs=>?_
 have:s.1≠t:=fun e=>h (by rw[← e];exact List.mem_map.2 ⟨s,hs,rfl⟩)
 simpa using this
theorem gT_id (L:List Tb) (h:(L.map (·.1)).Nodup):gT L=L:=by
 have H:∀ (L G:List Rq.SpL),((G++L).map (·.1)).Nodup->L.foldl (fun G p=>gW G p.1 p.2) G=G++L:=by
  intro L
  induction L with
  | nil=>intro G _;simp
  | cons p L ih =>
   intro G hG
   have h1:gW G p.1 p.2=G++[p]:=by
    unfold gW
    rw[gD_id]
    intro e
    rw[List.map_append,List.nodup_append] at hG
    exact hG.2.2 p.1 e p.1 (by simp) rfl
   rw[List.foldl_cons,h1,ih (G++[p]) (by simpa using hG)]
   simp
 have:=H L [] (by simpa using h)
 simpa[gT] using this
theorem Eg.check {G:List Rq.SpL} (h:(G.map (·.1)).Nodup):Eg (gT (tabL G)) G:=by
 have hp:=tabL_perm h
 rw[gT_id _ ((hp.map (·.1)).nodup_iff.2 h)]
 exact Eg.of_perm hp h
open Go.RowKit Go.Maps Go.ChangeMaps
open Gm (thn bl1 bdr)
def okT (t:Int):Prop:=0<=t/\t<281474976710656
theorem ok0:okT 0:=⟨by decide,by decide⟩
theorem ofM_ok (t:ByteArray):okT (ofM t).1.s.tx:=by
 obtain⟨h1,h2⟩:=rdM_tx t
 unfold ofM
 split
 ·exact ok0
 ·split
  ·exact⟨h1,h2⟩
  ·exact ok0
theorem openM_ok (s:ByteArray) (a:Int):okT (openM s a).1.s.tx:=by
 unfold openM
 generalize frM (s.extract a.toNat s.size)=p
 split
 ·exact ok0
 ·split
  ·exact ok0
  ·split
   ·exact ok0
   ·exact ofM_ok p.1
theorem rcd_ok (fs:List ByteArray) (i:Nat):okT (rcd fs i).tx:=openM_ok _ 0
theorem stepG_good {s:Sc} {x:Int} {G:List Rq.SpL} (h:∀ q∈G,goodB q) (hs:okT s.tx) (hx:okT x):∀ q∈stepG s x G,goodB q:=by
 intro q hq
 unfold stepG at hq
 split at hq
 ·rcases List.mem_append.1 hq with h1 |h1
  ·exact h q (List.mem_filter.1 h1).1
  ·have:q=(s.tx,x):=by simpa using h1
   rw[this];exact⟨hs.1,hs.2,hx.1,hx.2⟩
 ·split at hq
  ·exact h q (List.mem_filter.1 hq).1
  ·exact h q hq
theorem pla_ok {fs:List ByteArray} (hf:Fit 200 fs) {i:Nat} (hi:i<fs.length):okT (pla fs i):=by
 have h1:=off_lt hf.frm hi (Nat.le_refl _)
 rw[off_all] at h1
 have h2:=hf.sz
 unfold okT pla
 omega
theorem tbM_good {fs:List ByteArray} (hf:Fit 200 fs):∀ i,i<=fs.length->∀ q∈tbM fs 0 [] i,goodB q
 | 0,_=>fun q hq=>by cases hq
 | i+1,hi=>by
  rw[tbM_succ fs [] (Nat.zero_le i)]
  exact stepG_good (tbM_good hf i (by omega)) (rcd_ok fs i) (pla_ok hf (by omega))
theorem tbM_nd (fs:List ByteArray):∀ i,((tbM fs 0 [] i).map (·.1)).Nodup
 | 0=>List.nodup_nil
 | i+1=>by
  rw[tbM_succ fs [] (Nat.zero_le i)]
  exact stepG_nd (tbM_nd fs i)
theorem tbM_pre (fs r:List ByteArray):∀ i,i<=fs.length->tbM (fs++r) 0 [] i=tbM fs 0 [] i
 | 0,_=>rfl
 | i+1,hi=>by
  have e1:rcd (fs++r) i=rcd fs i:=by
   unfold rcd
   rw[List.getD_eq_getElem?_getD,List.getD_eq_getElem?_getD,List.getElem?_append_left (by omega)]
  have e2:pla (fs++r) i=pla fs i:=by
   unfold pla off
   rw[List.take_append_of_le_length (by omega)]
  rw[tbM_succ _ [] (Nat.zero_le i),tbM_succ _ [] (Nat.zero_le i),tbM_pre fs r i (by omega),e1,e2]
theorem tbM_cut (fs:List ByteArray) (G:List Rq.SpL) {k:Nat}:∀ n,k<=n->tbM fs 0 G n=tbM fs k (tbM fs 0 G k) n:=by
 intro n hn
 induction n with
 | zero =>
  obtain rfl:k=0:=by omega
  rfl
 | succ n ih =>
  by_cases h:k<=n
  ·rw[tbM_succ fs G (Nat.zero_le n),tbM_succ fs _ h,ih h]
  ·obtain rfl:k=n+1:=by omega
   rw[tbM_at fs (n+1) _ (n+1) (Nat.le_refl _)]
theorem check_same {fs gs:List ByteArray} {f:ByteArray} (h:recF f=ckM (tabL (tbM fs 0 [] fs.length))) :
  tabL (tbM (fs++f ::gs) (fs.length+1) (gT (tabL (tbM fs 0 [] fs.length))) (fs++f ::gs).length)=tabL (tbM (fs++f ::gs) 0 [] (fs++f ::gs).length):=by
 have hn:fs.length+1<=(fs++f ::gs).length:=by simp
 have e0:rcd (fs++f ::gs) fs.length=ckS:=by
  unfold rcd
  rw[List.getD_eq_getElem?_getD,List.getElem?_append_right (Nat.le_refl _),Nat.sub_self]
  show(recF f).s=ckS
  rw[h];rfl
 have e1:tbM (fs++f ::gs) 0 [] (fs.length+1)=tbM fs 0 [] fs.length:=by
  rw[tbM_succ _ [] (Nat.zero_le _),e0,tbM_pre fs _ _ (Nat.le_refl _)]
  rfl
 rw[tbM_cut (fs++f ::gs) [] _ hn,e1]
 exact((Eg.check (tbM_nd fs _)).tb _ _ _).tab
section
variable {w w0 w1 w':World}{ms:List Rm}{a0 a:Option Addr}{n0 c0 c l k n:Nat}{fs1:List ByteArray}{W W':Nat->Prop}{L:List Rq.SpL}
structure Lk (w:World) (l:Nat) (fs1:List ByteArray) (k:Nat) (w':World):Prop where
 ex:∃ W gs,Lo W w' l (fs1++gs)/\gs.length<=k/\(∀ j,W j->w.heap.size<=j)/\Below w.heap.size w w'
theorem Lk.bel (h:Lk w l fs1 k w'):Below w.heap.size w w':=by obtain⟨W,gs,_,_,_,h3⟩:=h.ex;exact h3
theorem Lk.append {v:Value} {m:Rm} (h:Lk w l fs1 k w0) (hv:RecV w0 v m) (hm:Small m):Calls Tryz.prog 23 #[.pointer (some ⟨l,0,none⟩),v] w0 fun e w'=>∃ x y,e=.returned (.tuple #[.int .i64 x,.int .i64 y])/\Lk w l fs1 (k+1) w':=by
 obtain⟨W,gs,h1,hk,h2,h3⟩:=h.ex
 refine(h1.append hv hm).mono ?_
 rintro e w' ⟨x,y,fs',W',he,hl,hf,hor⟩
 have hb:Below w.heap.size w w':=h3.trans (hf.bel h2 h3.size)
 rcases hor with⟨_,_,rfl,_⟩ |⟨_,rfl,_⟩
 ·exact⟨x,y,he,W',gs++[(frameM m).1],by rw[← List.append_assoc];exact hl,by simp;omega,ge_sub h2 h3.size hf,hb⟩
 ·exact⟨x,y,he,W',gs,hl,by omega,ge_sub h2 h3.size hf,hb⟩
theorem lk_new (w:World):Calls Tryz.prog 7 #[.int .i64 200] w fun e w'=>∃ db,e=.returned (.tuple #[.pointer (some ⟨db,0,none⟩),.int .i64 0])/\Below w.heap.size w w'/\Hid (Calls Tryz.prog 8 #[.pointer (some ⟨db,0,none⟩),.int .i64 0,.int .i64 200,.int .i64 1] w' fun e w2=>∃ l,e=.returned (.tuple #[.pointer (some ⟨l,0,none⟩),.int .i64 0])/\Lk w l [] 0 w2):=by
 letI:Inhabited PrSet:=⟨⟨fun _=>none⟩⟩
 refine(Ds.new 200 (by omega) (by omega) w (fun j o e=>by cases e)).mono ?_
 rintro e w' ⟨he,h1,h2⟩
 refine⟨_,he,h2,?_⟩
 refine((new_wt 200 0 200 (by omega)).open_ (run:=1) (fit_nil (by omega) (by omega)) (Nat.le_refl _) h1 (by omega) (by omega) (by omega) (by show 0+200<=200;omega) rfl rfl).mono ?_
 rintro e w2 ⟨j,S',l,he,⟨_,hj,hs,hn⟩,hlv,hK⟩
 obtain⟨W,g1,g2,g3⟩:=lv_sup (q:=⟨w.heap.size,0+200+1,S',w.heap.size+2,0,200,1,j⟩) hlv
 rw[List.take_nil] at g3
 exact⟨l,he,W,[],⟨_,g3,rfl⟩,Nat.le_refl _,g3.ge,h2.trans hK.bel⟩
set_option maxHeartbeats 2000000 in
theorem log_lk (hr:RsV w a0 n0 ms) (hs:∀ m∈ms,Small m) (hn:n0<=9223372036854775807) (most:Nat) (hm:most<=1000):Calls Tryz.prog 16 #[.slice a0 n0 c0,.int .i64 (most:Int)] w fun e w'=>∃ l,e=.returned (.pointer (some ⟨l,0,none⟩))/\Lk w l [] most w':=by
 have HR:Hid (RsV w a0 n0 ms):=hr
 have HSm:Hid (∀ m∈ms,Small m):=hs
 have HLn:Hid (ms.length=n0):=hr.len
 have CN:=lk_new w
 obtain⟨N,hN⟩:∃ N,min n0 most=N:=⟨_,rfl⟩
 have HN:Hid (min n0 most=N):=hN
 have HU:Hid (∀ l j wx,Lk w l [] j wx->j<=N->Lk w l [] most wx):=fun l j wx h hj=>by
  obtain⟨W,gs,q1,q2,q3⟩:=h.ex
  exact⟨W,gs,q1,by omega,q3⟩
 clear hr hs hN
 go_enter Tryz.func16,Tryz.ntmps16
 go_wp2_with first
  | (go_at_call 7;refine CN.mono ?_;rintro e w1 ⟨db,rfl,b1,CO⟩)
  | (go_at_call 8;refine CO.out.mono ?_;rintro e w2 ⟨l,rfl,HM⟩;have HM1:Hid (Lk w l [] 0 w2):=HM;clear HM CO)
 go_loopw [9] (fun ix wr=>∃ j:Nat,j<=N/\ix=.int .i64 (j:Int)/\Lk w l [] j wr) (fun ix _=>N-(intOf ix).toNat)
 case atStart=>exact⟨0,Nat.zero_le _,rfl,HM1.out⟩
 case round =>
  clear HM1
  obtain⟨j,hj,rfl,hM⟩:=hrel
  rename World=>wo
  have HM:Hid (Lk w l [] j wo):=hM
  clear hM
  have hNe:=HN.out
  by_cases hlt:j<N
  ·have hj1:(j:Int)<(n0:Int):=by omega
   have hj2:(j:Int)<(most:Int):=by omega
   have hjm:j<ms.length:=by have:=HLn.out;omega
   obtain⟨g,o,I,T,ha,hg,hrg,hv,hh⟩:=HR.out.at_ j hjm
   subst ha
   have hbo:Below w.heap.size w wo:=HM.out.bel
   have hr1:wo.rangeAt g (o+j*13) ((ms[j].s.A I T).toList):=rangeAt_below hrg hg hbo
   have CA:Hid (Calls Tryz.prog 23 #[.pointer (some ⟨l,0,none⟩),.agg (ms[j].s.A I T)] wo fun e w'=>∃ x y,e=.returned (.tuple #[.int .i64 x,.int .i64 y])/\Lk w l [] (j+1) w'):=HM.out.append (hv.below hbo) (HSm.out _ (List.getElem_mem _))
   clear hrg hv hh hbo hg
   generalize ms[j].s=sm at *
   go_wp2_with first
    | (refine wpList_load_rcs (s:=sm) (I:=I) (T:=T) _ rfl (.tmp 45) rfl rfl hr1 ?_;clear hr1)
    | (go_at_call 23;refine CA.out.mono ?_;rintro e w3 ⟨x,y,rfl,HM3⟩)
   go_roundw
   case rel=>exact⟨j+1,by omega,by go_num,HM3⟩
   case measure=>simp[intOf];omega
  ·have hj3:¬ ((j:Int)<(n0:Int)/\(j:Int)<(most:Int)):=by omega
   have HM9:Hid (Lk w l [] most wo):=HU.out _ _ _ HM.out hj
   by_cases hj1:(j:Int)<(n0:Int)
   ·have hj2:¬ (j:Int)<(most:Int):=by omega
    go_wp2
    go_ret
    exact⟨l,rfl,HM9.out⟩
   ·go_wp2
    go_ret
    exact⟨l,rfl,HM9.out⟩
theorem row_slT (h:Gm.Row w 40 2 (.slice a n c) (L.map Rq.encS)) (hn:L.length=n):SlT w (.slice a n c) L:=by
 have hsp:=Rq.Sp.of_row h
 obtain⟨a',c',e,hc⟩:=h.sl
 rw[List.length_map] at hc
 injection e with e1 e2 e3
 subst e1 e3
 refine⟨a,c,by rw[hn],⟨fun i hi=>?_⟩,?_,hc,?_⟩
 ·rw[encT_length] at hi
  obtain⟨g,o,ea,hg,k0,k1⟩:=hsp.at_ hi
  refine⟨g,o,ea,hg,?_,?_⟩
  ·simpa[encT] using k0
  ·simpa[encT] using k1
 ·rintro rfl
  rcases h.row.2 with⟨e2,_⟩ |⟨g,cap,cur,e2,_⟩
  ·injection e2 with _ _ e3
  ·injection e2 with e3;cases e3
 ·intro hne ad ea
  have hp:0<L.length:=List.length_pos_iff.2 hne
  obtain⟨g,o,e2,_⟩:=hsp.at_ hp
  rw[e2] at ea
  cases ea
  rfl
end
section
variable {w w1 w2 wr w':World}{ms ms2:List Rm}{a0 a b0:Option Addr}{n0 c0 m0 d0 c l k n:Nat}{fs fs1:List ByteArray}{f:ByteArray}{W W':Nat->Prop}
structure Tb0 (w:World) (l:Nat) (fs:List ByteArray) (a:Option Addr) (n c:Nat) (w2:World):Prop where
 ex:∃ W,Lo W w2 l fs/\∀ j,W j->w.heap.size<=j
 bel:Below w.heap.size w w2
 row:Gm.Row w2 40 2 (.slice a n c) ((tabL (tbM fs 0 [] fs.length)).map Rq.encS)
 len:(tabL (tbM fs 0 [] fs.length)).length=n
 n40:fs.length<=40
theorem tab40 (h:fs.length<=40):(tabL (tbM fs 0 [] fs.length)).length<=40:=by
 have:=tbM_len fs 0 [] fs.length
 rw[tabL_len]
 simp at this
 omega
theorem tab_good (hf:Fit 200 fs):∀ p∈tabL (tbM fs 0 [] fs.length),goodB p:=fun p hp=>tbM_good hf _ (Nat.le_refl _) p ((tabL_perm (tbM_nd fs _)).mem_iff.1 hp)
theorem Lk.table (h:Lk w l [] 40 w1):Calls Tryz.prog 18 #[.pointer (some ⟨l,0,none⟩),.int .i64 0] w1 fun e w2=>∃ fs a n c,e=.returned (.tuple #[.slice a n c,.int .i64 0])/\Tb0 w l fs a n c w2:=by
 obtain⟨W,fs,h1,hk,h2,h3⟩:=h.ex
 rw[List.nil_append] at h1
 refine(Table_zero h1 (c:=0) (by omega)).mono ?_
 rintro e w2 ⟨a,c,W',he,g1,g2,g3,g4⟩
 exact⟨fs,a,_,c,he,⟨W',g1,ge_sub h2 h3.size g2⟩,h3.trans (g2.bel h2 h3.size),g3,tabL_len _,hk⟩
theorem Tb0.append (h:Tb0 w l fs a n c w2):Calls Tryz.prog 23 #[.pointer (some ⟨l,0,none⟩),.agg (ckS.A nilV (.slice a n c))] w2 fun e w3 =>
  (∃ f,e=.returned (.tuple #[.int .i64 (pla fs fs.length),.int .i64 0])/\recF f=ckM (tabL (tbM fs 0 [] fs.length))/\Lk w l (fs++[f]) 0 w3)∨(∃ x,e=.returned (.tuple #[.int .i64 x,.int .i64 7])/\Below w.heap.size w w3):=by
 obtain⟨W,h1,h2⟩:=h.ex
 have h40:=tab40 h.n40
 obtain⟨k1,k2⟩:=frame_ck (tab_good h1.fit) (by omega)
 have hv:RecV w2 (.agg (ckS.A nilV (.slice a n c))) (ckM (tabL (tbM fs 0 [] fs.length))):=⟨_,_,rfl,SlI.nil _,row_slT h.row h.len⟩
 have hm:Small (ckM (tabL (tbM fs 0 [] fs.length))):=⟨by show 0*24<=_;omega,by show(tabL (tbM fs 0 [] fs.length)).length*16<=_;omega,(fun p hp=>by cases hp),Nat.zero_le _,Nat.zero_le _,Nat.zero_le _⟩
 refine(h1.append hv hm).mono ?_
 rintro e w3 ⟨x,y,fs',W',he,hl,hf,hor⟩
 have hb:Below w.heap.size w w3:=h.bel.trans (hf.bel h2 h.bel.size)
 rcases hor with⟨rfl,_,rfl,rfl,_⟩ |⟨_,rfl,_,⟨e1,_⟩ |⟨_,rfl,_⟩⟩
 ·exact Or.inl ⟨_,by rw[pla_end];exact he,k2,W',[],by rw[List.append_nil];exact hl,Nat.le_refl _,ge_sub h2 h.bel.size hf,hb⟩
 ·exact absurd k1 e1
 ·exact Or.inr ⟨x,he,hb⟩
structure T1 (w:World) (l:Nat) (LL:List Rq.SpL) (a:Option Addr) (n c:Nat) (w':World):Prop where
 nx:Calls Tryz.prog 18 #[.pointer (some ⟨l,0,none⟩),.int .i64 0] w' fun e w2=>∃ a' c',e=.returned (.tuple #[.slice a' n c',.int .i64 0])/\Below w.heap.size w w2/\Rq.Sp w2 (.slice a n c) LL/\Rq.Sp w2 (.slice a' n c') LL
theorem Lk.tables (h:Lk w l (fs++[f]) k wr) (hf:recF f=ckM (tabL (tbM fs 0 [] fs.length))) (h40:fs.length<=40):∃ (LL:List Rq.SpL) (n:Nat),LL.length=n/\n<=100000/\Calls Tryz.prog 18 #[.pointer (some ⟨l,0,none⟩),.int .i64 (pla fs fs.length)] wr fun e w'=>∃ a c,e=.returned (.tuple #[.slice a n c,.int .i64 0])/\T1 w l LL a n c w':=by
 obtain⟨W,gs,h1,hk,h2,h3⟩:=h.ex
 rw[List.append_assoc,List.singleton_append] at h1
 have hi:fs.length<(fs++f ::gs).length:=by simp
 have hg:(fs++f ::gs)[fs.length]=f:=by simp
 have hp:pla (fs++f ::gs) fs.length=pla fs fs.length:=by
  unfold pla off
  rw[List.take_left',List.take_length]
  rfl
 have hgood:∀ p∈tabL (tbM fs 0 [] fs.length),goodB p:=by
  refine tab_good ⟨fun q hq=>h1.fit.frm q (List.mem_append_left _ hq),?_,h1.fit.s0,h1.fit.s1⟩
  have:=h1.fit.sz
  rw[cat_append,bsz] at this
  omega
 have hlen:=tbM_len (fs++f ::gs) (fs.length+1) (gT (tabL (tbM fs 0 [] fs.length))) (fs++f ::gs).length
 have hgl:=gT_len (tabL (tbM fs 0 [] fs.length))
 have h4:=tab40 h40
 have hfl:=fs_len h1.fit
 have hcs:=check_same (fs:=fs) (gs:=gs) hf
 have T:=Table_at h1 hi (by rw[hg,hf];rfl) (by rw[hg,hf];show(tabL (tbM fs 0 [] fs.length)).length<=255;omega) (by rw[hg,hf];exact fun p hp=>goodB_wf (hgood p hp))
 rw[hg,hp,hf] at T
 change Calls _ _ _ _ fun e w'=>TaO W wr l (fs++f ::gs) (tbM (fs++f ::gs) (fs.length+1) (gT (tabL (tbM fs 0 [] fs.length))) (fs++f ::gs).length) e w' at T
 generalize tbM (fs++f ::gs) (fs.length+1) (gT (tabL (tbM fs 0 [] fs.length))) (fs++f ::gs).length=G1 at *
 refine⟨tabL G1,G1.length,tabL_len _,by omega,T.mono ?_⟩
 rintro e w' ⟨a,c,W',he,g1,g2,g3,g4⟩
 refine⟨a,c,he,⟨(Table_zero g1 (c:=0) (by omega)).mono ?_⟩⟩
 rintro e w2 ⟨a',c',W2,he2,q1,q2,q3,q4⟩
 rw[← hcs] at q3
 have e1:(tbM (fs++f ::gs) 0 [] (fs++f ::gs).length).length=G1.length:=by rw[← tabL_len,← hcs,tabL_len]
 rw[e1] at he2 q3
 have ge':=ge_sub h2 h3.size g2
 have hb':Below w.heap.size w w':=h3.trans (g2.bel h2 h3.size)
 exact⟨a',c',he2,hb'.trans (q2.bel ge' hb'.size),Rq.Sp.of_row (g3.fr q2 (fun g e=>(g4 g e).1)),Rq.Sp.of_row q3⟩
set_option maxHeartbeats 4000000 in
theorem checks15_walk (hr:RsV w a0 n0 ms) (hs:∀ m∈ms,Small m) (hn:n0<=9223372036854775807) (hr2:RsV w b0 m0 ms2) (hs2:∀ m∈ms2,Small m) (hn2:m0<=9223372036854775807):Calls Tryz.prog 5 #[.slice a0 n0 c0,.slice b0 m0 d0] w fun e w'=>e=.returned (.bool true)/\Below w.heap.size w w':=by
 have CL:Hid (Calls Tryz.prog 16 #[.slice a0 n0 c0,.int .i64 40] w fun e w'=>∃ l,e=.returned (.pointer (some ⟨l,0,none⟩))/\Lk w l [] 40 w'):=log_lk hr hs hn 40 (by omega)
 have CK:Hid (∀ wx,Calls Tryz.prog 21 #[] wx fun e w'=>e=.returned (.bool true)/\Below wx.heap.size wx w'):=fun wx=>Rq.awake15 wx
 have hbd:∀ a n c W,(Instr.build 54 #[(0,.int .i64 9),(10,.slice a n c)]).run Tryz.prog W=.ok (.agg (ckS.A nilV (.slice a n c))) W:=fun a n c W=>by kernel_rfl
 have HR:Hid (RsV w b0 m0 ms2):=hr2
 have HSm:Hid (∀ m∈ms2,Small m):=hs2
 have HLn:Hid (ms2.length=m0):=hr2.len
 obtain⟨N,hN⟩:∃ N,min m0 40=N:=⟨_,rfl⟩
 have HN:Hid (min m0 40=N):=hN
 clear hr hs hn hr2 hs2 hn2 hN
 go_enter Tryz.func5,Tryz.ntmps5
 go_wp2_with first
  | (go_at_call 16;refine CL.out.mono ?_;rintro e w1 ⟨l,rfl,HM⟩;have HM1:Hid (Lk w l [] 40 w1):=HM;clear HM)
  | (go_at_call 18;refine HM1.out.table.mono ?_;rintro e w2 ⟨fs,a,n,c,rfl,X⟩;have HX:Hid (Tb0 w l fs a n c w2):=X;clear X)
  | (go_at_call 23;refine HX.out.append.mono ?_;rintro e w3 (⟨f,rfl,hf,X⟩ | ⟨x,rfl,b3⟩))
  | (go_at_call 21;refine(CK.out _).mono ?_;rintro e w9 ⟨rfl,b9⟩)
 rotate_left
 ·go_ret
  exact⟨rfl,thn b3 b9⟩
 have HF:Hid (recF f=ckM (tabL (tbM fs 0 [] fs.length))/\fs.length<=40):=⟨hf,HX.out.n40⟩
 have HM3:Hid (Lk w l (fs++[f]) 0 w3):=X
 have HTs:Hid (∀ wx j,Lk w l (fs++[f]) j wx->∃ (LL:List Rq.SpL) (n:Nat),LL.length=n/\n<=100000/\Calls Tryz.prog 18 #[.pointer (some ⟨l,0,none⟩),.int .i64 (pla fs fs.length)] wx fun e w'=>∃ a c,e=.returned (.tuple #[.slice a n c,.int .i64 0])/\T1 w l LL a n c w'):=fun wx j h=>h.tables HF.out.1 HF.out.2
 clear hf X HX HM1 CL HF
 generalize pla fs fs.length=x at *
 generalize fs++[f]=fs1 at *
 go_loopw [10] (fun ix wr=>∃ j:Nat,j<=N/\ix=.int .i64 (j:Int)/\Lk w l fs1 j wr) (fun ix _=>N-(intOf ix).toNat)
 case atStart=>exact⟨0,Nat.zero_le _,rfl,HM3.out⟩
 case round =>
  clear HM3
  obtain⟨j,hj,rfl,hM⟩:=hrel
  rename World=>wo
  have HM:Hid (Lk w l fs1 j wo):=hM
  clear hM
  have hNe:=HN.out
  by_cases hlt:j<N
  ·have hj1:(j:Int)<(m0:Int):=by omega
   have hj2:(j:Int)<40:=by omega
   have hjm:j<ms2.length:=by have:=HLn.out;omega
   obtain⟨g,o,I,T,ha,hg,hrg,hv,hh⟩:=HR.out.at_ j hjm
   subst ha
   have hbo:Below w.heap.size w wo:=HM.out.bel
   have hr1:wo.rangeAt g (o+j*13) ((ms2[j].s.A I T).toList):=rangeAt_below hrg hg hbo
   have CA:Hid (Calls Tryz.prog 23 #[.pointer (some ⟨l,0,none⟩),.agg (ms2[j].s.A I T)] wo fun e w'=>∃ x y,e=.returned (.tuple #[.int .i64 x,.int .i64 y])/\Lk w l fs1 (j+1) w'):=HM.out.append (hv.below hbo) (HSm.out _ (List.getElem_mem _))
   clear hrg hv hh hbo hg HTs
   generalize ms2[j].s=sm at *
   go_wp2_with first
    | (refine wpList_load_rcs (s:=sm) (I:=I) (T:=T) _ rfl (.tmp 55) rfl rfl hr1 ?_;clear hr1)
    | (go_at_call 23;refine CA.out.mono ?_;rintro e w4 ⟨x4,y4,rfl,HM4⟩)
   go_roundw
   case rel=>exact⟨j+1,by omega,by go_num,HM4⟩
   case measure=>simp[intOf];omega
  ·obtain⟨LL,nn,hll,hnn,T⟩:=HTs.out _ _ HM.out
   have HT:Hid (Calls Tryz.prog 18 #[.pointer (some ⟨l,0,none⟩),.int .i64 x] wo fun e w'=>∃ a c,e=.returned (.tuple #[.slice a nn c,.int .i64 0])/\T1 w l LL a nn c w'):=T
   have HLL:Hid (LL.length=nn/\nn<=100000):=⟨hll,hnn⟩
   clear T HTs hll hnn
   by_cases hj1:(j:Int)<(m0:Int)
   all_goals first |have hj2:¬ (j:Int)<40:=(by omega) |skip
   all_goals
    go_wp2_with first
     | (have:=HT1;go_at_call 18;refine HT1.out.nx.mono ?_;rintro e w6 ⟨a6,c6,rfl,b6,s1,s2⟩;have B6:Hid (Below w.heap.size w w6/\Rq.Sp w6 (.slice a5 nn c5) LL/\Rq.Sp w6 (.slice a6 nn c6) LL):=⟨b6,s1,s2⟩;clear b6 s1 s2)
     | (go_at_call 18;refine HT.out.mono ?_;rintro e w5 ⟨a5,c5,rfl,t1⟩;have HT1:Hid (T1 w l LL a5 nn c5 w5):=t1;clear t1)
     | (go_at_call 19;refine(same_any B6.out.2.1 B6.out.2.2 HLL.out.1 HLL.out.2).mono ?_;rintro e w8 ⟨rfl,b8⟩;have B8:Hid (Below w.heap.size w w8):=thn B6.out.1 b8;clear b8)
     | (go_at_call 21;refine(CK.out _).mono ?_;rintro e w9 ⟨rfl,b9⟩;have B9:Hid (Below w.heap.size w w9):=thn B8.out b9;clear b9)
    go_ret
    exact⟨rfl,B9.out⟩
end
end Go.Proofs.YtjlhohljkedbbaaGreat.Lg
