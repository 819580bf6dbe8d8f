import Derived.Test.YtkcpclmkbmeigaaGreatMab
import Derived.WalkSpells
set_option linter.unusedVariables false
set_option linter.unusedSimpArgs false
set_option maxRecDepth 100000
namespace Go.Proofs.YtkcpclmkbmeigaaGreat.Fd
open Go.RowKit Gm Go.Maps Go.Sort Go.Shelf
theorem sortsF (m:Nat):AnyZI.SortsIn Tryz.prog Tryz.sortedI_ren Fence.wide m :=
  ⟨fun blk off cap ss W hH hblk hsz=>callsIn_wide.2 (AnyM.slices_Sort_int Tryz.sortI blk off cap ss W hH hblk hsz),
   fun p cap W=>callsIn_wide.2 (AnyM.slices_Sort_int_none Tryz.sortI p cap W)⟩
def iC (l:List Int):List (List Value):=l.map fun x=>[.int .i64 x]
def srtF (l:List Int):List Int:=l.mergeSort fun x y=>decide (x<=y)
theorem mem_srtF {l:List Int} {x:Int}:x∈srtF l↔x∈l:=by unfold srtF;exact List.mem_mergeSort
theorem srtF_len (l:List Int):(srtF l).length=l.length:=by unfold srtF;exact List.length_mergeSort l
theorem flat1 {α:Type} (f:α->Value) (l:List α):(l.map fun x=>[f x]).flatten=l.map f:=by
 induction l with
 | nil=>rfl
 | cons a l ih=>simp[ih]
structure RwI (w:World) (e:Ending) (w':World) (l:List Int):Prop where
 ex:∃ v,e=.returned v/\Row w' 3 1 v (iC l)/\∀ g,v.ownBlock=some g->w.heap.size<=g
 bel:Below w.heap.size w w'
section
variable {W:Nat->Prop}{w w':World}{b n fb:Nat}{f:Lit->Option Value}{K:List CL}{G:List Gt}{c:Int}
theorem row_of {B:Nat} {t:TypeId} {v:Value} {α:Type} {F:α->Value} {l:List α} {m:Nat} (h:w.ownsRow B t 1 v m (l.map F)) (hm:m=l.length):Row w t 1 v (l.map fun x=>[F x])/\∀ g,v.ownBlock=some g->B<=g:=by
 subst hm
 refine⟨⟨fun c hc=>?_,?_⟩,fun g e=>?_⟩
 ·obtain⟨x,_,rfl⟩:=List.mem_map.1 hc;rfl
 ·rw[flat1,List.length_map]
  exact ownsRow_base_a h (Nat.zero_le _)
 ·rcases h.2 with⟨e2,_⟩ |⟨g',cap,cur,e2,hB,_⟩
  ·rw[e2] at e;cases e
  ·rw[e2] at e;cases e;exact hB
theorem keysI_perm (h:Mp w 3 b n f) {ts:List Int} (hnd:ts.Nodup) (hf:∀ l,(f l).isSome=true↔∃ t∈ts,l=.int .i64 t):∃ D,w.ownsMap Tryz.prog 3 hdR b n D/\Maps.size D=n/\ts.Perm (intKeys D):=by
 obtain⟨D,ho,hn,hv⟩:=h.ex
 refine⟨D,ho,hn,?_⟩
 obtain⟨es,rfl,hp,hk⟩:=ho.entries KI
 refine perm_intKeys hp (fun p hp2=>?_) hnd (fun x=>?_)
 ·have:Maps.has (.map es) p.1=true:=List.any_eq_true.2 ⟨p,hp2,WideAt.sameKey_self (hk p hp2)⟩
  rw[hv.has,hf] at this
  obtain⟨t,_,e⟩:=this
  exact⟨t,e⟩
 ·rw[hv.has,hf]
  exact⟨fun h=>⟨x,h,rfl⟩,fun⟨t,h,e⟩=>by cases e;exact h⟩
theorem keysF_c (mb:Option Nat) (W:World):Calls Tryz.prog 70 #[.map mb] W fun e w'=>e=.returned (.func (.func 103) #[] #[.pointer (some ⟨W.heap.size,0,none⟩)])/\w'=W.alloc (.cells #[.map mb] 79) :=
 (callsIn_wide (n:=5)).1 (AnyZI.keys_in Tryz.keysF Fence.wide 5 trivial rfl mb W)
theorem sortedF_c (h:Mp w 3 b n f) {ts:List Int} (hnd:ts.Nodup) (hf:∀ l,(f l).isSome=true↔∃ t∈ts,l=.int .i64 t) (hl:n<=100000) :
  Calls Tryz.prog 57 #[.func (.func 103) #[] #[.pointer (some ⟨w.heap.size,0,none⟩)]] (w.alloc (.cells #[.map (some b)] 79)) fun e w'=>RwI w e w' (srtF ts):=by
 obtain⟨D0,hown,hsz,hperm⟩:=keysI_perm h hnd hf
 have hbl:=hown.lt
 have hseq:SeqGives Fence.wide 2 Tryz.prog 103 #[.pointer (some ⟨w.heap.size,0,none⟩)] encZ (fun ss=>ss.Perm (intKeys D0)) (Maps.size D0) (w.alloc (.cells #[.map (some b)] 79)) :=
  AnyZI.keys_gives (ρ:=Tryz.keysF_ren) {Tryz.keysF with} Fence.wide _ trivial rfl (by omega) w.heap.size b n D0 _ (by simp) (by simp) (by
   obtain⟨es,clock,hb,Ft,hs,hD⟩:=hown
   exact⟨es,clock,(Below.heap_alloc _ _ b hbl).trans hb,Ft,hs,hD⟩)
 have cS:=AnyZI.sorted_in Tryz.sortedI Fence.wide 5 trivial trivial trivial trivial rfl (by omega) (sortsF _) (enters_of Tryz.func92 (by kernel_rfl) rfl) 103 #[.pointer (some ⟨w.heap.size,0,none⟩)] trivial (enters_of Tryz.func103 (by kernel_rfl) rfl) _ _ (by rw[hsz];unfold maxLen;omega) (by rw[hsz];omega) _ hseq
 change CallsIn _ _ Tryz.prog 57 _ _ _ at cS
 refine(callsIn_wide.1 cS).mono ?_
 rintro e w' ⟨v,ss,rfl,hS,hrow,hnil,hb⟩
 have e:ss.mergeSort (fun x y=>decide (x<=y))=srtF ts:=mergeSort_of_perm_i (hS.trans hperm.symm)
 rw[e] at hrow
 obtain⟨r1,r2⟩:=row_of hrow (by rw[(hS.trans hperm.symm).length_eq];unfold srtF;rw[List.length_mergeSort])
 exact⟨⟨v,rfl,r1,fun g e=>Nat.le_trans (by simp) (r2 g e)⟩,((Below.refl _ w).alloc (Nat.le_refl _) _).trans (hb.mono (by simp))⟩
theorem fW_some {L:List Dv} (l:Lit):(fW L l).isSome=true↔∃ t∈L.map (fun d=>d.g.txn),l=.int .i64 t:=by
 constructor
 ·intro h
  cases l <;> try (cases h;done)
  rename_i q a
  cases q <;> try (cases h;done)
  rw[fW_at,Option.isSome_map,lkD,List.find?_isSome] at h
  obtain⟨d,hd,e⟩:=h
  exact⟨a,List.mem_map.2 ⟨d,hd,by simpa using e⟩,rfl⟩
 ·rintro⟨t,ht,rfl⟩
  obtain⟨d,hd,rfl⟩:=List.mem_map.1 ht
  rw[fW_at,Option.isSome_map,lkD,List.find?_isSome]
  exact⟨d,hd,by simp⟩
theorem Going_any (h:Fo W w fb K G c) (hl:G.length<=100000):Calls Tryz.prog 37 #[.pointer (some ⟨fb,0,none⟩)] w fun e w'=>RwI w e w' (srtF (G.map (·.txn))):=by
 obtain⟨v,bw,L,hI,rfl⟩:=h.ex
 rw[List.length_map] at hl
 have C:=isMade_ok hI.is
 have c1:w.cell? ⟨fb,1,none⟩=some (.map (some bw)):=hI.is.c 1
 have hnd:(L.map fun d=>d.g.txn).Nodup:=List.pairwise_map.2 (hI.nd.imp fun h=>h.1)
 have CS:=sortedF_c hI.wa hnd fW_some hl
 have CK:=keysF_c (some bw) w
 rw[List.map_map]
 have em:((fun x:Gt=>x.txn) ∘ fun x:Dv=>x.g)=fun d=>d.g.txn:=rfl
 rw[em]
 clear h hI hnd hl em
 generalize srtF (L.map fun d=>d.g.txn)=ts at *
 go_enter Tryz.func37,Tryz.ntmps37
 go_wp2_with first
  | (go_at_call 65;refine C.mono ?_;rintro e w2 ⟨rfl,rfl⟩)
  | (go_at_call 70;refine CK.mono ?_;rintro e w2 ⟨rfl,rfl⟩)
  | (go_at_call 57;refine CS.mono ?_;rintro e w3 ⟨⟨v3,rfl,q1,q2⟩,q3⟩;obtain⟨a3,c3,e3,_⟩:=q1.sl;subst e3)
 go_ret
 exact⟨⟨_,rfl,q1,q2⟩,q3⟩
end
end Go.Proofs.YtkcpclmkbmeigaaGreat.Fd
