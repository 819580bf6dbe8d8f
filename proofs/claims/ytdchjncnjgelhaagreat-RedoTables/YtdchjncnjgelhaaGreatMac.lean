import Derived.Test.YtdchjncnjgelhaaGreatMab
import Derived.Lib.SmallJoins
import Derived.Laws.BitsAllLaws
import Derived.Lib.BufferWrite
import Derived.Lib.LazyBuf
import Derived.Lib.SlBytesRow
import Derived.Deep.OwnRows
import Derived.Deep.RegionHeldLaw
import Derived.Deep.MidRow
import Derived.Laws.AppendOwn
import Derived.Laws.ResultCell
import Derived.Laws.Rows
import Derived.Deep.WholeRow
import Derived.Deep.RegionLaw
import Derived.BigRegion
set_option linter.unusedVariables false
set_option linter.unusedSimpArgs false
set_option maxRecDepth 100000
namespace Go.Proofs.YtdchjncnjgelhaaGreat.Pk
open Go.RowKit
def putV (s:ByteArray) (n k:Int):ByteArray × Int :=
 if k<1∨6<k then(⟨#[]⟩,1) else if n<0∨limI k.toNat<=n then(⟨#[]⟩,6) else(s++beS n.toNat k.toNat,0)
theorem putV_width {s:ByteArray} {n k:Int} (h:k<1∨6<k):putV s n k=(⟨#[]⟩,1):=by simp[putV,h]
theorem putV_range {s:ByteArray} {n k:Int} (h:¬ (k<1∨6<k)) (h':n<0∨limI k.toNat<=n):putV s n k=(⟨#[]⟩,6):=by simp[putV,h,h']
theorem putV_fits {s:ByteArray} {n k:Int} (h:¬ (k<1∨6<k)) (h':¬ (n<0∨limI k.toNat<=n)):putV s n k=(s++beS n.toNat k.toNat,0):=by simp[putV,h,h']
def textV (s t:ByteArray):ByteArray × Int :=
 if 65535<t.size then(⟨#[]⟩,3) else(s++beS t.size 2++t,0)
theorem textV_long {s t:ByteArray} (h:65535<t.size):textV s t=(⟨#[]⟩,3):=by simp[textV,h]
theorem textV_fits {s t:ByteArray} (h:¬ 65535<t.size):textV s t=(s++beS t.size 2++t,0):=by simp[textV,h]
theorem limI_1:limI ((1:Int).toNat)=256:=by decide
theorem limI_2:limI ((2:Int).toNat)=65536:=by decide
theorem limI_3:limI ((3:Int).toNat)=16777216:=by decide
theorem limI_4:limI ((4:Int).toNat)=4294967296:=by decide
theorem limI_5:limI ((5:Int).toNat)=1099511627776:=by decide
theorem limI_6:limI ((6:Int).toNat)=281474976710656:=by decide
theorem numI_1 (n:Int) (w:World) (h0:0<=n) (hn:n<=281474976710656) :
  Calls Tryz.prog 131 #[.int .i64 n,.int .i64 1] w fun e w'=>e=.returned (.string (beS n.toNat 1))/\Below w.heap.size w w':=by
 have h:=num_1 n.toNat w (by omega)
 rw[Int.toNat_of_nonneg h0] at h
 exact h
theorem numI_2 (n:Int) (w:World) (h0:0<=n) (hn:n<=281474976710656) :
  Calls Tryz.prog 131 #[.int .i64 n,.int .i64 2] w fun e w'=>e=.returned (.string (beS n.toNat 2))/\Below w.heap.size w w':=by
 have h:=num_2 n.toNat w (by omega)
 rw[Int.toNat_of_nonneg h0] at h
 exact h
theorem numI_3 (n:Int) (w:World) (h0:0<=n) (hn:n<=281474976710656) :
  Calls Tryz.prog 131 #[.int .i64 n,.int .i64 3] w fun e w'=>e=.returned (.string (beS n.toNat 3))/\Below w.heap.size w w':=by
 have h:=num_3 n.toNat w (by omega)
 rw[Int.toNat_of_nonneg h0] at h
 exact h
theorem numI_4 (n:Int) (w:World) (h0:0<=n) (hn:n<=281474976710656) :
  Calls Tryz.prog 131 #[.int .i64 n,.int .i64 4] w fun e w'=>e=.returned (.string (beS n.toNat 4))/\Below w.heap.size w w':=by
 have h:=num_4 n.toNat w (by omega)
 rw[Int.toNat_of_nonneg h0] at h
 exact h
theorem numI_5 (n:Int) (w:World) (h0:0<=n) (hn:n<=281474976710656) :
  Calls Tryz.prog 131 #[.int .i64 n,.int .i64 5] w fun e w'=>e=.returned (.string (beS n.toNat 5))/\Below w.heap.size w w':=by
 have h:=num_5 n.toNat w (by omega)
 rw[Int.toNat_of_nonneg h0] at h
 exact h
theorem numI_6 (n:Int) (w:World) (h0:0<=n) (hn:n<=281474976710656) :
  Calls Tryz.prog 131 #[.int .i64 n,.int .i64 6] w fun e w'=>e=.returned (.string (beS n.toNat 6))/\Below w.heap.size w w':=by
 have h:=num_6 n.toNat w (by omega)
 rw[Int.toNat_of_nonneg h0] at h
 exact h
set_option maxHeartbeats 2000000 in
theorem Put_any (s:ByteArray) (n k:Int) (w:World) (hs:s.size<=281474976710656) :
  Calls Tryz.prog 103 #[.string s,.int .i64 n,.int .i64 k] w fun e w'=>e=.returned (.tuple #[.string (putV s n k).1,.int .i64 (putV s n k).2])/\Below w.heap.size w w':=by
 by_cases hw:k<1∨6<k
 ·rw[putV_width hw]
  have hd:(decide (1<=k)&&decide (k<=6))=false:=by simp;omega
  go_enter Tryz.func103,Tryz.ntmps103
  go_wp2_with (go_at_call 92;refine(isWidth_any _ _).mono ?_;rintro e w' ⟨rfl,rfl⟩)
  go_ret2
  exact⟨rfl,Below.refl _ _⟩
 ·have hk:k=1∨k=2∨k=3∨k=4∨k=5∨k=6:=by omega
  by_cases hr:n<0∨limI k.toNat<=n
  ·rw[putV_range hw hr]
   clear hw
   rcases hr with hr |hr
   ·rcases hk with rfl |rfl |rfl |rfl |rfl |rfl
    all_goals
     go_enter Tryz.func103,Tryz.ntmps103
     go_wp2_with (go_at_call 92;refine(isWidth_any _ _).mono ?_;rintro e w' ⟨rfl,rfl⟩)
     go_ret2
     exact⟨rfl,Below.refl _ _⟩
   ·rcases hk with rfl |rfl |rfl |rfl |rfl |rfl
    ·rw[limI_1] at hr
     have hn0:0<=n:=by omega
     go_enter Tryz.func103,Tryz.ntmps103
     go_wp2_with (go_at_call 92;refine(isWidth_any _ _).mono ?_;rintro e w' ⟨rfl,rfl⟩)
     go_ret2
     exact⟨rfl,Below.refl _ _⟩
    ·rw[limI_2] at hr
     have hn0:0<=n:=by omega
     go_enter Tryz.func103,Tryz.ntmps103
     go_wp2_with (go_at_call 92;refine(isWidth_any _ _).mono ?_;rintro e w' ⟨rfl,rfl⟩)
     go_ret2
     exact⟨rfl,Below.refl _ _⟩
    ·rw[limI_3] at hr
     have hn0:0<=n:=by omega
     go_enter Tryz.func103,Tryz.ntmps103
     go_wp2_with (go_at_call 92;refine(isWidth_any _ _).mono ?_;rintro e w' ⟨rfl,rfl⟩)
     go_ret2
     exact⟨rfl,Below.refl _ _⟩
    ·rw[limI_4] at hr
     have hn0:0<=n:=by omega
     go_enter Tryz.func103,Tryz.ntmps103
     go_wp2_with (go_at_call 92;refine(isWidth_any _ _).mono ?_;rintro e w' ⟨rfl,rfl⟩)
     go_ret2
     exact⟨rfl,Below.refl _ _⟩
    ·rw[limI_5] at hr
     have hn0:0<=n:=by omega
     go_enter Tryz.func103,Tryz.ntmps103
     go_wp2_with (go_at_call 92;refine(isWidth_any _ _).mono ?_;rintro e w' ⟨rfl,rfl⟩)
     go_ret2
     exact⟨rfl,Below.refl _ _⟩
    ·rw[limI_6] at hr
     have hn0:0<=n:=by omega
     go_enter Tryz.func103,Tryz.ntmps103
     go_wp2_with (go_at_call 92;refine(isWidth_any _ _).mono ?_;rintro e w' ⟨rfl,rfl⟩)
     go_ret2
     exact⟨rfl,Below.refl _ _⟩
  ·rw[putV_fits hw hr]
   clear hw
   have hn0:0<=n:=by omega
   rcases hk with rfl |rfl |rfl |rfl |rfl |rfl
   ·rw[limI_1] at hr
    have hlt:n<256:=by omega
    have hz:(beS n.toNat 1).size<=6:=by rw[beS_size];omega
    clear hr
    go_enter Tryz.func103,Tryz.ntmps103
    go_wp2_with (first |(go_at_call 92;refine(isWidth_any _ _).mono ?_;rintro e w' ⟨rfl,rfl⟩) |(go_at_call 131;refine(numI_1 _ _ (by omega) (by omega)).mono ?_;rintro e w' ⟨rfl,hb⟩))
    go_ret2
    exact⟨rfl,hb⟩
   ·rw[limI_2] at hr
    have hlt:n<65536:=by omega
    have hz:(beS n.toNat 2).size<=6:=by rw[beS_size];omega
    clear hr
    go_enter Tryz.func103,Tryz.ntmps103
    go_wp2_with (first |(go_at_call 92;refine(isWidth_any _ _).mono ?_;rintro e w' ⟨rfl,rfl⟩) |(go_at_call 131;refine(numI_2 _ _ (by omega) (by omega)).mono ?_;rintro e w' ⟨rfl,hb⟩))
    go_ret2
    exact⟨rfl,hb⟩
   ·rw[limI_3] at hr
    have hlt:n<16777216:=by omega
    have hz:(beS n.toNat 3).size<=6:=by rw[beS_size];omega
    clear hr
    go_enter Tryz.func103,Tryz.ntmps103
    go_wp2_with (first |(go_at_call 92;refine(isWidth_any _ _).mono ?_;rintro e w' ⟨rfl,rfl⟩) |(go_at_call 131;refine(numI_3 _ _ (by omega) (by omega)).mono ?_;rintro e w' ⟨rfl,hb⟩))
    go_ret2
    exact⟨rfl,hb⟩
   ·rw[limI_4] at hr
    have hlt:n<4294967296:=by omega
    have hz:(beS n.toNat 4).size<=6:=by rw[beS_size];omega
    clear hr
    go_enter Tryz.func103,Tryz.ntmps103
    go_wp2_with (first |(go_at_call 92;refine(isWidth_any _ _).mono ?_;rintro e w' ⟨rfl,rfl⟩) |(go_at_call 131;refine(numI_4 _ _ (by omega) (by omega)).mono ?_;rintro e w' ⟨rfl,hb⟩))
    go_ret2
    exact⟨rfl,hb⟩
   ·rw[limI_5] at hr
    have hlt:n<1099511627776:=by omega
    have hz:(beS n.toNat 5).size<=6:=by rw[beS_size];omega
    clear hr
    go_enter Tryz.func103,Tryz.ntmps103
    go_wp2_with (first |(go_at_call 92;refine(isWidth_any _ _).mono ?_;rintro e w' ⟨rfl,rfl⟩) |(go_at_call 131;refine(numI_5 _ _ (by omega) (by omega)).mono ?_;rintro e w' ⟨rfl,hb⟩))
    go_ret2
    exact⟨rfl,hb⟩
   ·rw[limI_6] at hr
    have hlt:n<281474976710656:=by omega
    have hz:(beS n.toNat 6).size<=6:=by rw[beS_size];omega
    clear hr
    go_enter Tryz.func103,Tryz.ntmps103
    go_wp2_with (first |(go_at_call 92;refine(isWidth_any _ _).mono ?_;rintro e w' ⟨rfl,rfl⟩) |(go_at_call 131;refine(numI_6 _ _ (by omega) (by omega)).mono ?_;rintro e w' ⟨rfl,hb⟩))
    go_ret2
    exact⟨rfl,hb⟩
set_option maxHeartbeats 1000000 in
theorem Text_any (s t:ByteArray) (w:World) (hs:s.size<=281474976710656) (ht:t.size<=281474976710656) :
  Calls Tryz.prog 197 #[.string s,.string t] w fun e w'=>e=.returned (.tuple #[.string (textV s t).1,.int .i64 (textV s t).2])/\Below w.heap.size w w':=by
 by_cases hl:65535<t.size
 ·rw[textV_long hl]
  go_enter Tryz.func197,Tryz.ntmps197
  go_wp2_with fail
  go_ret2
  exact⟨rfl,Below.refl _ _⟩
 ·rw[textV_fits hl]
  have hz:(beS t.size 2).size<=6:=by rw[beS_size];omega
  have hz2:(s++beS t.size 2).size<=281474976710662:=by rw[ByteArray.size_append];omega
  go_enter Tryz.func197,Tryz.ntmps197
  go_wp2_with (go_at_call 131;refine(num_2 _ _ (by omega)).mono ?_;rintro e w' ⟨rfl,hb⟩)
  go_ret2
  exact⟨rfl,hb⟩
structure Off (b:Nat) (w w':World):Prop where
 os:w'.os=w.os
 tape:w'.tape=w.tape
 output:w'.output=w.output
 size:w.heap.size<=w'.heap.size
 block:∀ k,k<w.heap.size->k≠b->w'.heap[k]?=w.heap[k]?
theorem Off.refl (b:Nat) (w:World):Off b w w:=⟨rfl,rfl,rfl,Nat.le_refl _,fun _ _ _=>rfl⟩
theorem Off.trans {d:Nat} {a b c:World} (h:Off d a b) (k:Off d b c):Off d a c :=
 ⟨k.os.trans h.os,k.tape.trans h.tape,k.output.trans h.output,Nat.le_trans h.size k.size,fun i hi hn=>(k.block i (Nat.lt_of_lt_of_le hi h.size) hn).trans (h.block i hi hn)⟩
theorem Off.of_below {b:Nat} {w w':World} (h:Below w.heap.size w w'):Off b w w':=⟨h.os,h.tape,h.output,h.size,fun k hk _=>h.block k hk⟩
theorem Off.below {b B:Nat} {w w':World} (h:Off b w w') (hb:B<=b) (hB:B<=w.heap.size):Below B w w' :=
 ⟨h.os,h.tape,h.output,h.size,fun k hk=>h.block k (Nat.lt_of_lt_of_le hk hB) (Nat.ne_of_lt (Nat.lt_of_lt_of_le hk hb))⟩
theorem Off.alloc {b:Nat} {a w:World} (h:Off b a w) (o:Obj):Off b a (w.alloc o) :=
 h.trans (Off.of_below ((Below.refl _ _).alloc (Nat.le_refl _) o))
theorem Off.drew {b:Nat} {a w:World} (h:Off b a w):Off b a w.drew:=⟨h.os,h.tape,h.output,h.size,h.block⟩
theorem Off.setCell {b:Nat} {a w:World} (h:Off b a w) (i:Nat) (v:Value):Off b a (w.setCell ⟨b,i,none⟩ v):=by
 refine h.trans ⟨rfl,rfl,rfl,?_,fun k _ hk=>Below.heap_setCell w _ v k hk⟩
 simp[go_sem]
def isRd (w:World) (b:Nat) (s:ByteArray) (e:Int):Prop:=w.heap[b]?=some (.cells #[.string s,.int .i64 e] 180)
theorem isRd.c0 {w:World} {b:Nat} {s:ByteArray} {e:Int} (h:isRd w b s e):w.cell? ⟨b,0,none⟩=some (.string s):=by
 unfold isRd at h;simp[World.cell?,h]
theorem isRd.c1 {w:World} {b:Nat} {s:ByteArray} {e:Int} (h:isRd w b s e):w.cell? ⟨b,1,none⟩=some (.int .i64 e):=by
 unfold isRd at h;simp[World.cell?,h]
theorem isRd.f {w:World} {b:Nat} {s:ByteArray} {e:Int} (h:isRd w b s e) (i:Nat):w.frozen? ⟨b,i,none⟩=false:=by
 unfold isRd at h;simp[World.frozen?,h]
theorem isRd.lt {w:World} {b:Nat} {s:ByteArray} {e:Int} (h:isRd w b s e):b<w.heap.size:=by
 unfold isRd at h
 rcases Nat.lt_or_ge b w.heap.size with h' |h'
 ·exact h'
 ·simp[Array.getElem?_eq_none h'] at h
theorem isRd.below {w w':World} {b:Nat} {s:ByteArray} {e:Int} (h:isRd w b s e) (hb:Below w.heap.size w w'):isRd w' b s e:=(hb.block b h.lt).trans h
theorem isRd.off {w w':World} {b c:Nat} {s:ByteArray} {e:Int} (h:isRd w b s e) (hb:Off c w w') (hn:b≠c):isRd w' b s e:=(hb.block b h.lt hn).trans h
theorem isRd.set0 {w:World} {b:Nat} {s:ByteArray} {e:Int} (h:isRd w b s e) (t:ByteArray):isRd (w.setCell ⟨b,0,none⟩ (.string t)) b t e:=by
 unfold isRd at *
 rw[Joins.block_setCell h];rfl
theorem isRd.set1 {w:World} {b:Nat} {s:ByteArray} {e:Int} (h:isRd w b s e) (x:Int):isRd (w.setCell ⟨b,1,none⟩ (.int .i64 x)) b s x:=by
 unfold isRd at *
 rw[Joins.block_setCell h];rfl
def rdFail (l:ByteArray) (e x:Int):ByteArray × Int:=if e=0 then(⟨#[]⟩,x) else(l,e)
def rdRaw (l:ByteArray) (e n:Int):ByteArray × ByteArray × Int :=
 if e≠0 then(⟨#[]⟩,l,e) else if n<0 then(⟨#[]⟩,⟨#[]⟩,1) else if(l.size:Int)<n then(⟨#[]⟩,⟨#[]⟩,2) else(l.extract 0 n.toNat,l.extract n.toNat l.size,0)
theorem rdRaw_had {l:ByteArray} {e n:Int} (h:e≠0):rdRaw l e n=(⟨#[]⟩,l,e):=by simp[rdRaw,h]
theorem rdRaw_neg {l:ByteArray} {n:Int} (h:n<0):rdRaw l 0 n=(⟨#[]⟩,⟨#[]⟩,1):=by simp[rdRaw,h]
theorem rdRaw_short {l:ByteArray} {n:Int} (h:¬ n<0) (h2:(l.size:Int)<n):rdRaw l 0 n=(⟨#[]⟩,⟨#[]⟩,2):=by simp[rdRaw,h,h2]
theorem rdRaw_fits {l:ByteArray} {n:Int} (h:¬ n<0) (h2:¬ (l.size:Int)<n):rdRaw l 0 n=(l.extract 0 n.toNat,l.extract n.toNat l.size,0):=by simp[rdRaw,h,h2]
def beN (l:List UInt8):Nat:=l.foldl (fun a b=>256*a+b.toNat) 0
def rdNumSt (l:ByteArray) (e k:Int):ByteArray × Int:=if k<1∨6<k then rdFail l e 1 else(l,e)
def rdNum (l:ByteArray) (e k:Int):Nat × ByteArray × Int :=
 (beN (rdRaw (rdNumSt l e k).1 (rdNumSt l e k).2 k).1.data.toList,(rdRaw (rdNumSt l e k).1 (rdNumSt l e k).2 k).2)
def rdTextSt (l:ByteArray) (e m:Int):ByteArray × Int:=if m<(rdNum l e 2).1 then rdFail (rdNum l e 2).2.1 (rdNum l e 2).2.2 3 else(rdNum l e 2).2
def rdText (l:ByteArray) (e m:Int):ByteArray × ByteArray × Int:=rdRaw (rdTextSt l e m).1 (rdTextSt l e m).2 (rdNum l e 2).1
def rdEnd (l:ByteArray) (e:Int):ByteArray × Int:=if 0<l.size then rdFail l e 4 else(l,e)
theorem Left_nil (w:World):Calls Tryz.prog 95 #[.pointer none] w fun e w'=>e=.returned (.int .i64 0)/\w'=w:=by
 go_enter Tryz.func95,Tryz.ntmps95
 go_wp2
 go_ret
 exact⟨rfl,rfl⟩
theorem Err_nil (w:World):Calls Tryz.prog 96 #[.pointer none] w fun e w'=>e=.returned (.int .i64 11)/\w'=w:=by
 go_enter Tryz.func96,Tryz.ntmps96
 go_wp2
 go_ret
 exact⟨rfl,rfl⟩
theorem fail_nil (x:Int) (w:World):Calls Tryz.prog 93 #[.pointer none,.int .i64 x] w fun e w'=>e=.returned (.tuple #[])/\w'=w:=by
 go_enter Tryz.func93,Tryz.ntmps93
 go_wp2_with (go_at_call 96;refine(Err_nil _).mono ?_;rintro e w' ⟨rfl,rfl⟩)
 go_end0
 exact⟨rfl,rfl⟩
theorem Left_any (b:Nat) (s:ByteArray) (e:Int) (w:World) (hs:s.size<=140737488351232) (h:isRd w b s e):Calls Tryz.prog 95 #[.pointer (some ⟨b,0,none⟩)] w fun e w'=>e=.returned (.int .i64 s.size)/\w'=w:=by
 have hc0:=h.c0
 go_enter Tryz.func95,Tryz.ntmps95
 go_wp2
 go_ret
 exact⟨rfl,rfl⟩
theorem Err_any (b:Nat) (s:ByteArray) (e:Int) (w:World) (h:isRd w b s e):Calls Tryz.prog 96 #[.pointer (some ⟨b,0,none⟩)] w fun r w'=>r=.returned (.int .i64 e)/\w'=w:=by
 have hc1:=h.c1
 go_enter Tryz.func96,Tryz.ntmps96
 go_wp2
 go_ret
 exact⟨rfl,rfl⟩
theorem fail_had (b:Nat) (s:ByteArray) (e x:Int) (w:World) (h:isRd w b s e) (he:e≠0):Calls Tryz.prog 93 #[.pointer (some ⟨b,0,none⟩),.int .i64 x] w fun e w'=>e=.returned (.tuple #[])/\w'=w:=by
 have he':(e==0)=false:=by simpa using he
 go_enter Tryz.func93,Tryz.ntmps93
 go_wp2_with (go_at_call 96;refine(Err_any b s e _ h).mono ?_;rintro e w' ⟨rfl,rfl⟩)
 go_end0
 exact⟨rfl,rfl⟩
theorem fail_new (b:Nat) (s:ByteArray) (x:Int) (w:World) (h:isRd w b s 0):Calls Tryz.prog 93 #[.pointer (some ⟨b,0,none⟩),.int .i64 x] w fun e w'=>e=.returned (.tuple #[])/\isRd w' b ⟨#[]⟩ x/\Off b w w':=by
 have hc0:=h.c0
 have hc1:=h.c1
 have hf:=h.f
 go_enter Tryz.func93,Tryz.ntmps93
 go_wp2_with (go_at_call 96;refine(Err_any b s 0 _ h).mono ?_;rintro e w' ⟨rfl,rfl⟩)
 go_end0
 exact⟨rfl,(h.set0 _).set1 _,((Off.refl _ _).setCell _ _).setCell _ _⟩
theorem fail_any (b:Nat) (s:ByteArray) (e x:Int) (w:World) (h:isRd w b s e):Calls Tryz.prog 93 #[.pointer (some ⟨b,0,none⟩),.int .i64 x] w fun r w'=>r=.returned (.tuple #[])/\isRd w' b (rdFail s e x).1 (rdFail s e x).2/\Off b w w':=by
 by_cases he:e=0
 ·subst he
  exact fail_new b s x w h
 ·simp only[rdFail,he,if_false]
  refine(fail_had b s e x w h he).mono ?_
  rintro r w' ⟨rfl,rfl⟩
  exact⟨rfl,h,Off.refl _ _⟩
theorem Raw_nil (n:Int) (w:World):Calls Tryz.prog 65 #[.pointer none,.int .i64 n] w fun e w'=>e=.returned (.string ⟨#[]⟩)/\w'=w:=by
 go_enter Tryz.func65,Tryz.ntmps65
 go_wp2_with (first |(go_at_call 96;refine(Err_nil _).mono ?_;rintro e w' ⟨rfl,rfl⟩) |(go_at_call 95;refine(Left_nil _).mono ?_;rintro e w' ⟨rfl,rfl⟩) |(go_at_call 93;refine(fail_nil _ _).mono ?_;rintro e w' ⟨rfl,rfl⟩))
 all_goals (go_ret;exact⟨rfl,rfl⟩)
set_option maxHeartbeats 1000000 in
theorem Raw_any (b:Nat) (l:ByteArray) (e n:Int) (w:World) (hs:l.size<=140737488351232) (h:isRd w b l e) :
  Calls Tryz.prog 65 #[.pointer (some ⟨b,0,none⟩),.int .i64 n] w fun r w'=>r=.returned (.string (rdRaw l e n).1)/\isRd w' b (rdRaw l e n).2.1 (rdRaw l e n).2.2/\Off b w w':=by
 by_cases he:e=0
 ·subst he
  by_cases hn:n<0
  ·rw[rdRaw_neg hn]
   go_enter Tryz.func65,Tryz.ntmps65
   go_wp2_with (first |(go_at_call 93;refine(fail_new b l _ _ h).mono ?_;rintro e w1 ⟨rfl,h1,o1⟩) |(go_at_call 96;refine(Err_any b _ _ _ h1).mono ?_;rintro e w' ⟨rfl,rfl⟩))
   go_ret
   exact⟨rfl,h1,o1⟩
  ·by_cases hl:(l.size:Int)<n
   ·rw[rdRaw_short hn hl]
    go_enter Tryz.func65,Tryz.ntmps65
    go_wp2_with (first |(go_at_call 95;refine(Left_any b _ _ _ hs h).mono ?_;rintro e w' ⟨rfl,rfl⟩) |(go_at_call 93;refine(fail_new b l _ _ h).mono ?_;rintro e w1 ⟨rfl,h1,o1⟩) |(go_at_call 96;refine(Err_any b _ _ _ h1).mono ?_;rintro e w' ⟨rfl,rfl⟩))
    go_ret
    exact⟨rfl,h1,o1⟩
   ·rw[rdRaw_fits hn hl]
    obtain⟨m,rfl⟩:∃ m:Nat,n=m:=⟨n.toNat,by omega⟩
    have hm:m<=l.size:=by omega
    have hc0:=h.c0
    have hf:=h.f
    rw[Int.toNat_natCast]
    go_enter Tryz.func65,Tryz.ntmps65
    go_wp2_with (first |(go_at_call 95;refine(Left_any b _ _ _ hs h).mono ?_;rintro e w' ⟨rfl,rfl⟩) |(go_at_call 96;refine(Err_any b _ _ _ h).mono ?_;rintro e w' ⟨rfl,rfl⟩))
    go_ret
    exact⟨rfl,h.set0 _,(Off.refl _ _).setCell _ _⟩
 ·rw[rdRaw_had he]
  have he':(e !=0)=true:=by simpa using he
  go_enter Tryz.func65,Tryz.ntmps65
  go_wp2_with (first |(go_at_call 95;refine(Left_any b _ _ _ hs h).mono ?_;rintro e w' ⟨rfl,rfl⟩) |(go_at_call 93;refine(fail_had b l _ _ _ h he).mono ?_;rintro e w1 ⟨rfl,rfl⟩) |(go_at_call 96;refine(Err_any b _ _ _ h).mono ?_;rintro e w' ⟨rfl,rfl⟩))
  all_goals (go_ret;exact⟨rfl,h,Off.refl _ _⟩)
theorem beN_snoc (l:List UInt8) (c:UInt8):beN (l++[c])=256*beN l+c.toNat:=by simp[beN]
theorem beN_lt (l:List UInt8):beN l<256 ^ l.length:=by
 have key:∀ (l:List UInt8) (a n:Nat),a<256 ^ n->l.foldl (fun a b=>256*a+b.toNat) a<256 ^ (n+l.length):=by
  intro l
  induction l with
  | nil=>intro a n h;simpa using h
  | cons c l ih =>
   intro a n h
   have hc:=c.toNat_lt
   have:=ih (256*a+c.toNat) (n+1) (by rw[Nat.pow_succ];omega)
   rw[List.foldl_cons,List.length_cons]
   rw[show n+(l.length+1)=n+1+l.length by omega]
   exact this
 have:=key l 0 0 (by simp)
 simpa[beN] using this
theorem beN_le6 (l:List UInt8) (h:l.length<=6):beN l<281474976710656:=by
 have h1:=beN_lt l
 have h2:256 ^ l.length<=256 ^ 6:=Nat.pow_le_pow_right (by omega) h
 have h3:256 ^ 6=281474976710656:=by decide
 omega
theorem take_snoc (s:ByteArray) (k:Nat) (h:k<s.size):s.data.toList.take (k+1)=s.data.toList.take k++[s[k]]:=by
 rw[List.take_succ_eq_append_getElem (by simpa using h)];rfl
theorem bytesRow_cell (w:World) (s:ByteArray) (c m:Nat) (k:Nat) (h:k<s.size) :
  (w.alloc (.cells (bytesRow s c) 5 (m,m+1))).cell? ⟨w.heap.size,k,none⟩=some (.int .u8 (s[k].toNat:Int)):=by
 rw[World.cell?_alloc_mark]
 have h':k<s.data.size:=h
 simp only[bytesRow]
 rw[Array.getElem?_append_left (by simpa using h')]
 rw[Array.getElem?_map,Array.getElem?_eq_getElem h']
 rfl
theorem or_byte (x:Nat) (c:UInt8) (h:x<281474976710656):bits BinOp.or IntKind.i64 ((x:Int)*256) (wrap64 (c.toNat:Int))=((256*x+c.toNat:Nat):Int):=by
 have hc:=c.toNat_lt
 have e1:wrap64 (c.toNat:Int)=(c.toNat:Int):=by unfold wrap64;omega
 rw[e1]
 show IntKind.i64.wrap ((BitVec.ofInt 64 ((x:Int)*256) |||BitVec.ofInt 64 (c.toNat:Int)).toNat:Int)=_
 have e2:((x:Int)*256)=((256*x:Nat):Int):=by omega
 rw[e2,BitVec.toNat_or,ofInt_u64 (256*x) (by omega),ofInt_u64 c.toNat (by omega),nat_join8 (256*x) c.toNat (by omega) (by omega),IntKind.wrap_i64]
 omega
theorem rdFail_size (l:ByteArray) (e x:Int):(rdFail l e x).1.size<=l.size:=by
 unfold rdFail
 split
 ·exact Nat.zero_le _
 ·exact Nat.le_refl _
theorem rdFail_ne (l:ByteArray) (e x:Int) (hx:x≠0):(rdFail l e x).2≠0:=by
 unfold rdFail
 split
 ·exact hx
 ·assumption
theorem size_nil:(⟨#[]⟩:ByteArray).size=0:=rfl
theorem rdRaw_size (l:ByteArray) (e n:Int):(rdRaw l e n).2.1.size<=l.size:=by
 unfold rdRaw
 repeat' split
 all_goals simp[ByteArray.size_extract,size_nil]
theorem rdRaw_size1 (l:ByteArray) (e n:Int) (k:Nat) (h:n<=k):(rdRaw l e n).1.size<=k:=by
 unfold rdRaw
 repeat' split
 all_goals simp[ByteArray.size_extract,size_nil]
 all_goals omega
theorem rdNumSt_size (l:ByteArray) (e k:Int):(rdNumSt l e k).1.size<=l.size:=by
 unfold rdNumSt
 split
 ·exact rdFail_size _ _ _
 ·exact Nat.le_refl _
theorem rdNumSt_size1 (l:ByteArray) (e k:Int):(rdRaw (rdNumSt l e k).1 (rdNumSt l e k).2 k).1.size<=6:=by
 unfold rdNumSt
 split
 ·rw[rdRaw_had (rdFail_ne _ _ _ (by decide))];exact Nat.zero_le _
 ·exact rdRaw_size1 _ _ _ 6 (by omega)
theorem rdNum_size (l:ByteArray) (e k:Int):(rdNum l e k).2.1.size<=l.size:=Nat.le_trans (rdRaw_size _ _ _) (rdNumSt_size _ _ _)
theorem rdNum_lt (l:ByteArray) (e k:Int):(rdNum l e k).1<281474976710656:=beN_le6 _ (rdNumSt_size1 l e k)
set_option maxHeartbeats 1000000 in
theorem Num_any (b:Nat) (l:ByteArray) (e k:Int) (w:World) (hs:l.size<=140737488351232) (h:isRd w b l e) :
  Calls Tryz.prog 63 #[.pointer (some ⟨b,0,none⟩),.int .i64 k] w fun r w'=>r=.returned (.int .i64 (rdNum l e k).1)/\isRd w' b (rdNum l e k).2.1 (rdNum l e k).2.2/\Off b w w':=by
 have hcv:=fun w s=>run_bytes_of_string (P:=Tryz.prog) w 9 83 5 s Tryz.underlying9 Tryz.underlying83 Tryz.underlying5
 have hl0:=Nat.le_trans (rdNumSt_size l e k) hs
 have hsv:=rdNumSt_size1 l e k
 obtain⟨l0,e0,hst⟩:∃ l0 e0,rdNumSt l e k=(l0,e0):=⟨_,_,rfl⟩
 rw[hst] at hl0 hsv
 dsimp only at hl0 hsv
 obtain⟨sv,st,hp⟩:∃ sv st,rdRaw l0 e0 k=(sv,st):=⟨_,_,rfl⟩
 have c1:=fun w h=>Raw_any b l0 e0 k w hl0 h
 have hr:rdNum l e k=(beN sv.data.toList,st):=by simp only[rdNum,hst,hp]
 rw[hr]
 rw[hp] at c1 hsv
 dsimp only at c1 hsv
 have C1:Hid _:=c1
 clear c1 hp hr hl0
 by_cases hk:k<1∨6<k
 ·have hd:(decide (1<=k)&&decide (k<=6))=false:=by simp;omega
  have c0:=fun w h=>fail_any b l e 1 w h
  rw[rdNumSt,if_pos hk] at hst
  rw[hst] at c0
  have C0:Hid _:=c0
  clear c0 hst hk hs
  go_enter Tryz.func63,Tryz.ntmps63
  go_wp2_with (first |(go_at_call 92;refine(isWidth_any _ _).mono ?_;rintro e w' ⟨rfl,rfl⟩) |(go_at_call 93;refine(C0.out _ h).mono ?_;rintro e w0 ⟨rfl,h0,o0⟩) |(go_at_call 65;refine(C1.out _ h0).mono ?_;rintro e w1 ⟨rfl,h1,o1⟩))
  have hcell:=fun j hj=>bytesRow_cell w1 sv (grownCap w1 sv.size 0 5) (bytesRow sv (grownCap w1 sv.size 0 5)).size j hj
  generalize bytesRow sv (grownCap w1 sv.size 0 5)=R at hcell ⊢
  generalize grownCap w1 sv.size 0 5=gc at hcell ⊢
  go_loop [5,18] (fun n i=>∃ j:Nat,j<=sv.size/\i=.int .i64 j/\n=.int .i64 (beN (sv.data.toList.take j))) (fun _ i=>sv.size-(intOf i).toNat)
  case atStart=>exact⟨0,Nat.zero_le _,rfl,rfl⟩
  case round =>
   obtain⟨j,hj,rfl,rfl⟩:=hrel
   by_cases hlt:j<sv.size
   ·have hc:=hcell j hlt
    have hlt2:=beN_le6 (sv.data.toList.take j) (by have:=List.length_take_le j sv.data.toList;omega)
    go_wp2
    go_round
    case rel=>exact⟨j+1,by omega,by go_num,by rw[or_byte _ _ hlt2,take_snoc _ _ hlt,beN_snoc]⟩
    case measure=>simp[intOf];omega
   ·go_wp2
    go_ret
    rw[List.take_of_length_le (by simp;omega)]
    exact⟨rfl,h1.below (((Below.refl _ _).alloc (Nat.le_refl _) _).drew),((o0.trans o1).alloc _).drew⟩
 ·have hd:(decide (1<=k)&&decide (k<=6))=true:=by simp;omega
  rw[rdNumSt,if_neg hk] at hst
  obtain⟨rfl,rfl⟩:=Prod.mk.inj hst
  clear hst hk hs
  go_enter Tryz.func63,Tryz.ntmps63
  go_wp2_with (first |(go_at_call 92;refine(isWidth_any _ _).mono ?_;rintro e w' ⟨rfl,rfl⟩) |(go_at_call 65;refine(C1.out _ h).mono ?_;rintro e w1 ⟨rfl,h1,o1⟩))
  have hcell:=fun j hj=>bytesRow_cell w1 sv (grownCap w1 sv.size 0 5) (bytesRow sv (grownCap w1 sv.size 0 5)).size j hj
  generalize bytesRow sv (grownCap w1 sv.size 0 5)=R at hcell ⊢
  generalize grownCap w1 sv.size 0 5=gc at hcell ⊢
  go_loop [5,18] (fun n i=>∃ j:Nat,j<=sv.size/\i=.int .i64 j/\n=.int .i64 (beN (sv.data.toList.take j))) (fun _ i=>sv.size-(intOf i).toNat)
  case atStart=>exact⟨0,Nat.zero_le _,rfl,rfl⟩
  case round =>
   obtain⟨j,hj,rfl,rfl⟩:=hrel
   by_cases hlt:j<sv.size
   ·have hc:=hcell j hlt
    have hlt2:=beN_le6 (sv.data.toList.take j) (by have:=List.length_take_le j sv.data.toList;omega)
    go_wp2
    go_round
    case rel=>exact⟨j+1,by omega,by go_num,by rw[or_byte _ _ hlt2,take_snoc _ _ hlt,beN_snoc]⟩
    case measure=>simp[intOf];omega
   ·go_wp2
    go_ret
    rw[List.take_of_length_le (by simp;omega)]
    exact⟨rfl,h1.below (((Below.refl _ _).alloc (Nat.le_refl _) _).drew),(o1.alloc _).drew⟩
set_option maxHeartbeats 1000000 in
theorem RText_any (b:Nat) (l:ByteArray) (e m:Int) (w:World) (hs:l.size<=140737488351232) (h:isRd w b l e) :
  Calls Tryz.prog 185 #[.pointer (some ⟨b,0,none⟩),.int .i64 m] w fun r w'=>r=.returned (.string (rdText l e m).1)/\isRd w' b (rdText l e m).2.1 (rdText l e m).2.2/\Off b w w':=by
 have c0:=fun w h=>Num_any b l e 2 w hs h
 have hn:=rdNum_lt l e 2
 have hz:=Nat.le_trans (rdNum_size l e 2) hs
 unfold rdText rdTextSt
 obtain⟨n,l1,e1,hst⟩:∃ n l1 e1,rdNum l e 2=(n,l1,e1):=⟨_,_,_,rfl⟩
 rw[hst] at c0 hn hz ⊢
 dsimp only at c0 hn hz ⊢
 have C0:Hid _:=c0
 clear c0 hst hs
 by_cases hm:m<n
 ·rw[if_pos hm]
  have hz2:=Nat.le_trans (rdFail_size l1 e1 3) hz
  have c1:=fun w h=>fail_any b l1 e1 3 w h
  obtain⟨l2,e2,hf⟩:∃ l2 e2,rdFail l1 e1 3=(l2,e2):=⟨_,_,rfl⟩
  rw[hf] at c1 hz2 ⊢
  have C1:Hid _:=c1
  dsimp only at hz2 ⊢
  have C2:Hid _:=fun w h=>Raw_any b l2 e2 n w hz2 h
  clear c1 hf
  go_enter Tryz.func185,Tryz.ntmps185
  go_wp2_with (first |(go_at_call 63;refine(C0.out _ h).mono ?_;rintro e w1 ⟨rfl,h1,o1⟩) |(go_at_call 93;refine(C1.out _ h1).mono ?_;rintro e w2 ⟨rfl,h2,o2⟩) |(go_at_call 65;refine(C2.out _ h2).mono ?_;rintro e w3 ⟨rfl,h3,o3⟩))
  go_ret
  exact⟨rfl,h3,(o1.trans o2).trans o3⟩
 ·rw[if_neg hm]
  have C2:Hid _:=fun w h=>Raw_any b l1 e1 n w hz h
  go_enter Tryz.func185,Tryz.ntmps185
  go_wp2_with (first |(go_at_call 63;refine(C0.out _ h).mono ?_;rintro e w1 ⟨rfl,h1,o1⟩) |(go_at_call 65;refine(C2.out _ h1).mono ?_;rintro e w3 ⟨rfl,h3,o3⟩))
  go_ret
  exact⟨rfl,h3,o1.trans o3⟩
theorem End_any (b:Nat) (l:ByteArray) (e:Int) (w:World) (hs:l.size<=140737488351232) (h:isRd w b l e) :
  Calls Tryz.prog 155 #[.pointer (some ⟨b,0,none⟩)] w fun r w'=>r=.returned (.int .i64 (rdEnd l e).2)/\isRd w' b (rdEnd l e).1 (rdEnd l e).2/\Off b w w':=by
 unfold rdEnd
 by_cases hl:0<l.size
 ·rw[if_pos hl]
  have c1:=fun w h=>fail_any b l e 4 w h
  obtain⟨l2,e2,hf⟩:∃ l2 e2,rdFail l e 4=(l2,e2):=⟨_,_,rfl⟩
  rw[hf] at c1 ⊢
  dsimp only at c1 ⊢
  have C1:Hid _:=c1
  clear c1 hf
  have hl':(0:Int)<(l.size:Int):=by omega
  go_enter Tryz.func155,Tryz.ntmps155
  go_wp2_with (first |(go_at_call 95;refine(Left_any b _ _ _ hs h).mono ?_;rintro e w' ⟨rfl,rfl⟩) |(go_at_call 93;refine(C1.out _ h).mono ?_;rintro e w2 ⟨rfl,h2,o2⟩) |(go_at_call 96;refine(Err_any b _ _ _ h2).mono ?_;rintro e w3 ⟨rfl,rfl⟩))
  go_ret
  exact⟨rfl,h2,o2⟩
 ·rw[if_neg hl]
  have hl':¬ (0:Int)<(l.size:Int):=by omega
  go_enter Tryz.func155,Tryz.ntmps155
  go_wp2_with (first |(go_at_call 95;refine(Left_any b _ _ _ hs h).mono ?_;rintro e w' ⟨rfl,rfl⟩) |(go_at_call 96;refine(Err_any b _ _ _ h).mono ?_;rintro e w3 ⟨rfl,rfl⟩))
  go_ret
  exact⟨rfl,h,Off.refl _ _⟩
def isWr (w:World) (b:Nat) (p:Option Addr) (n e:Int):Prop:=w.heap[b]?=some (.cells #[.pointer p,.int .i64 n,.int .i64 e] 242)
theorem isWr.c0 {w:World} {b:Nat} {p:Option Addr} {n e:Int} (h:isWr w b p n e):w.cell? ⟨b,0,none⟩=some (.pointer p):=by
 unfold isWr at h;simp[World.cell?,h]
theorem isWr.c1 {w:World} {b:Nat} {p:Option Addr} {n e:Int} (h:isWr w b p n e):w.cell? ⟨b,1,none⟩=some (.int .i64 n):=by
 unfold isWr at h;simp[World.cell?,h]
theorem isWr.c2 {w:World} {b:Nat} {p:Option Addr} {n e:Int} (h:isWr w b p n e):w.cell? ⟨b,2,none⟩=some (.int .i64 e):=by
 unfold isWr at h;simp[World.cell?,h]
theorem isWr.f {w:World} {b:Nat} {p:Option Addr} {n e:Int} (h:isWr w b p n e) (i:Nat):w.frozen? ⟨b,i,none⟩=false:=by
 unfold isWr at h;simp[World.frozen?,h]
theorem isWr.lt {w:World} {b:Nat} {p:Option Addr} {n e:Int} (h:isWr w b p n e):b<w.heap.size:=by
 unfold isWr at h
 rcases Nat.lt_or_ge b w.heap.size with h' |h'
 ·exact h'
 ·simp[Array.getElem?_eq_none h'] at h
theorem isWr.below {w w':World} {b:Nat} {p:Option Addr} {n e:Int} (h:isWr w b p n e) (hb:Below w.heap.size w w'):isWr w' b p n e:=(hb.block b h.lt).trans h
theorem isWr.set0 {w:World} {b:Nat} {p:Option Addr} {n e:Int} (h:isWr w b p n e) (x:Option Addr):isWr (w.setCell ⟨b,0,none⟩ (.pointer x)) b x n e:=by
 unfold isWr at *
 rw[Joins.block_setCell h];rfl
theorem isWr.set1 {w:World} {b:Nat} {p:Option Addr} {n e:Int} (h:isWr w b p n e) (x:Int):isWr (w.setCell ⟨b,1,none⟩ (.int .i64 x)) b p x e:=by
 unfold isWr at *
 rw[Joins.block_setCell h];rfl
theorem isWr.set2 {w:World} {b:Nat} {p:Option Addr} {n e:Int} (h:isWr w b p n e) (x:Int):isWr (w.setCell ⟨b,2,none⟩ (.int .i64 x)) b p n x:=by
 unfold isWr at *
 rw[Joins.block_setCell h];rfl
def Chain (b:Nat) (w:World):Option Addr->List ByteArray->Prop
 | p,[]=>p=none
 | p,t :: r=>∃ c p',p=some ⟨c,0,none⟩/\c≠b/\c<w.heap.size/\w.heap[c]?=some (.cells #[.pointer p',.string t] 272)/\1<=t.size/\Chain b w p' r
theorem Chain.off {b:Nat} {w w':World} (o:Off b w w'):∀ {l:List ByteArray} {p:Option Addr},Chain b w p l->Chain b w' p l
 | [],_,h=>h
 | t :: r,_,⟨c,p',hp,hc,hl,hh,ht,hr⟩=>⟨c,p',hp,hc,Nat.lt_of_lt_of_le hl o.size,(o.block c hl hc).trans hh,ht,Chain.off o hr⟩
def joinR:List ByteArray->ByteArray
 | []=>⟨#[]⟩
 | t :: r=>joinR r++t
def WrIs (w:World) (b:Nat) (all:ByteArray) (e:Int):Prop:=∃ p l,isWr w b p all.size e/\Chain b w p l/\joinR l=all
theorem WrIs.below {w w':World} {b:Nat} {all:ByteArray} {e:Int} (h:WrIs w b all e) (hb:Below w.heap.size w w'):WrIs w' b all e:=by
 obtain⟨p,l,h1,h2,h3⟩:=h
 exact⟨p,l,h1.below hb,h2.off (Off.of_below hb),h3⟩
theorem WrIs.lt {w:World} {b:Nat} {all:ByteArray} {e:Int} (h:WrIs w b all e):b<w.heap.size:=by
 obtain⟨p,l,h1,h2,h3⟩:=h
 exact h1.lt
def wrLay (all:ByteArray) (e:Int) (s:ByteArray) (x:Int):ByteArray × Int :=
 if e≠0 then(all,e) else if x≠0 then(⟨#[]⟩,x) else(all++s,0)
set_option maxHeartbeats 1000000 in
theorem lay_any (b:Nat) (all s:ByteArray) (e x:Int) (w:World) (h:WrIs w b all e) (hsz:all.size+s.size<=140737488351232) (hs:x=0->1<=s.size) :
  Calls Tryz.prog 188 #[.pointer (some ⟨b,0,none⟩),.string s,.int .i64 x] w fun r w'=>r=.returned (.tuple #[])/\WrIs w' b (wrLay all e s x).1 (wrLay all e s x).2/\Off b w w':=by
 obtain⟨p,l,h1,h2,h3⟩:=h
 have H3:Hid _:=h3
 clear h3
 have hc0:=h1.c0
 have hc1:=h1.c1
 have hc2:=h1.c2
 have hf:=h1.f
 have hlt:=h1.lt
 unfold wrLay
 by_cases he:e=0
 ·subst he
  rw[if_neg (fun h=>h rfl)]
  by_cases hx:x=0
  ·subst hx
   rw[if_neg (fun h=>h rfl)]
   replace hs:=hs rfl
   go_enter Tryz.func188,Tryz.ntmps188
   go_wp2
   go_end0
   have o1:Off b w ((w.setCell ⟨b,0,none⟩ (.pointer (some ⟨w.heap.size,0,none⟩))).setCell ⟨b,1,none⟩ (.int .i64 ((all.size:Int)+(s.size:Int)))):=((Off.refl _ _).setCell _ _).setCell _ _
   have i1:=(h1.set0 (some ⟨w.heap.size,0,none⟩)).set1 ((all.size:Int)+(s.size:Int))
   have z1:((w.setCell ⟨b,0,none⟩ (.pointer (some ⟨w.heap.size,0,none⟩))).setCell ⟨b,1,none⟩ (.int .i64 ((all.size:Int)+(s.size:Int)))).heap.size=w.heap.size:=by simp[go_sem]
   refine⟨rfl,⟨some ⟨w.heap.size,0,none⟩,s ::l,?_,⟨w.heap.size,p,rfl,by omega,?_,?_,hs,h2.off (o1.alloc _)⟩,?_⟩,o1.alloc _⟩
   ·rw[ByteArray.size_append,Int.natCast_add]
    exact i1.below ((Below.refl _ _).alloc (Nat.le_refl _) _)
   ·simp[go_sem]
   ·have:=(MapKept.heap_alloc ((w.setCell ⟨b,0,none⟩ (.pointer (some ⟨w.heap.size,0,none⟩))).setCell ⟨b,1,none⟩ (.int .i64 ((all.size:Int)+(s.size:Int)))) (.cells #[.pointer p,.string s] 272)).1
    rw[z1] at this
    exact this
   ·rw[joinR,H3.out]
  ·rw[if_pos hx]
   have hx':(x !=0)=true:=by simpa using hx
   go_enter Tryz.func188,Tryz.ntmps188
   go_wp2
   go_end0
   refine⟨rfl,⟨none,[],((h1.set0 _).set1 _).set2 _,rfl,rfl⟩,(((Off.refl _ _).setCell _ _).setCell _ _).setCell _ _⟩
 ·rw[if_pos he]
  have he':(e !=0)=true:=by simpa using he
  go_enter Tryz.func188,Tryz.ntmps188
  go_wp2
  go_end0
  exact⟨rfl,⟨p,l,h1,h2,H3.out⟩,Off.refl _ _⟩
theorem putV_size (n k:Int):(putV ⟨#[]⟩ n k).1.size<=6/\((putV ⟨#[]⟩ n k).2=0->1<=(putV ⟨#[]⟩ n k).1.size):=by
 by_cases hw:k<1∨6<k
 ·rw[putV_width hw]
  exact⟨Nat.zero_le _,fun h=>absurd h (by dsimp only;decide)⟩
 ·by_cases hr:n<0∨limI k.toNat<=n
  ·rw[putV_range hw hr]
   exact⟨Nat.zero_le _,fun h=>absurd h (by dsimp only;decide)⟩
  ·rw[putV_fits hw hr]
   dsimp only
   rw[ByteArray.size_append,beS_size,size_nil]
   exact⟨by omega,fun _=>by omega⟩
theorem textV_size (t:ByteArray):(textV ⟨#[]⟩ t).1.size<=65537/\((textV ⟨#[]⟩ t).2=0->1<=(textV ⟨#[]⟩ t).1.size):=by
 by_cases hl:65535<t.size
 ·rw[textV_long hl]
  exact⟨Nat.zero_le _,fun h=>absurd h (by dsimp only;decide)⟩
 ·rw[textV_fits hl]
  dsimp only
  rw[ByteArray.size_append,ByteArray.size_append,beS_size,size_nil]
  exact⟨by omega,fun _=>by omega⟩
theorem WNum_any (b:Nat) (all:ByteArray) (e n k:Int) (w:World) (h:WrIs w b all e) (hsz:all.size<=100000000000000) :
  Calls Tryz.prog 159 #[.pointer (some ⟨b,0,none⟩),.int .i64 n,.int .i64 k] w fun r w'=>r=.returned (.tuple #[])/\WrIs w' b (wrLay all e (putV ⟨#[]⟩ n k).1 (putV ⟨#[]⟩ n k).2).1 (wrLay all e (putV ⟨#[]⟩ n k).1 (putV ⟨#[]⟩ n k).2).2/\Off b w w':=by
 have hz:=putV_size n k
 have c1:=fun w=>Put_any ⟨#[]⟩ n k w (by decide)
 obtain⟨sv,ev,hp⟩:∃ sv ev,putV ⟨#[]⟩ n k=(sv,ev):=⟨_,_,rfl⟩
 rw[hp] at c1 hz ⊢
 dsimp only at c1 hz ⊢
 have C1:Hid _:=c1
 have C2:Hid _:=fun w h=>lay_any b all sv e ev w h (by omega) hz.2
 clear c1 hp hz
 go_enter Tryz.func159,Tryz.ntmps159
 go_wp2_with (first |(go_at_call 103;refine(C1.out _).mono ?_;rintro e w1 ⟨rfl,hb1⟩) |(go_at_call 188;refine(C2.out _ (h.below hb1)).mono ?_;rintro e w2 ⟨rfl,h2,o2⟩))
 go_end0
 exact⟨rfl,h2,(Off.of_below hb1).trans o2⟩
theorem WText_any (b:Nat) (all:ByteArray) (e:Int) (t:ByteArray) (w:World) (h:WrIs w b all e) (hsz:all.size<=100000000000000) (ht:t.size<=140737488351232) :
  Calls Tryz.prog 189 #[.pointer (some ⟨b,0,none⟩),.string t] w fun r w'=>r=.returned (.tuple #[])/\WrIs w' b (wrLay all e (textV ⟨#[]⟩ t).1 (textV ⟨#[]⟩ t).2).1 (wrLay all e (textV ⟨#[]⟩ t).1 (textV ⟨#[]⟩ t).2).2/\Off b w w':=by
 have hz:=textV_size t
 have c1:=fun w=>Text_any ⟨#[]⟩ t w (by decide) (by omega)
 obtain⟨sv,ev,hp⟩:∃ sv ev,textV ⟨#[]⟩ t=(sv,ev):=⟨_,_,rfl⟩
 rw[hp] at c1 hz ⊢
 dsimp only at c1 hz ⊢
 have C1:Hid _:=c1
 have C2:Hid _:=fun w h=>lay_any b all sv e ev w h (by omega) hz.2
 clear c1 hp hz
 go_enter Tryz.func189,Tryz.ntmps189
 go_wp2_with (first |(go_at_call 197;refine(C1.out _).mono ?_;rintro e w1 ⟨rfl,hb1⟩) |(go_at_call 188;refine(C2.out _ (h.below hb1)).mono ?_;rintro e w2 ⟨rfl,h2,o2⟩))
 go_end0
 exact⟨rfl,h2,(Off.of_below hb1).trans o2⟩
theorem step_copy_row {P:Program} {ops:Array Oper} {o:Oper} {a:Act} {w:World} {K:Act->World->Prop} {Q:Exit->Act->World->Prop} {E:Prop}
  (hg:o.guard=none) (d x:Operand) (dT sT:TypeId) (hop:o.op=Op.call {callee:=Callee.builtin Builtin.copy,args:=#[d,x],argTypes:=#[dT,sT]})
  (elem:TypeId) (hu:P.underlying dT=some (.slice elem)) (hs:(P.info? elem).map (·.size)=some 1)
  (g off dLen dCap:Nat) (hd:a.eval d=.slice (some ⟨g,off,none⟩) dLen dCap) (t:ByteArray) (hx:a.eval x=.string t) (cur:Array Value) (ty:TypeId)
  (hgk:w.heap[g]?=some (.cells cur ty (0,0))) (hle:t.size<=dLen) (hfit:off+t.size<=cur.size)
  (R:Array Value) (hR:R=(cur.toList.take off++Lib.byteCells t.data.toList++cur.toList.drop (off+t.size)).toArray)
  (hK:K (a.put o.dst (goInt t.size)) (w.setRow g R)) :
  if Region.wanted o (yielded ops a.tmps)=true then Oper.wp P o a w K Q else E:=by
 subst hR
 have hw:Region.wanted o (yielded ops a.tmps)=true:=by simp[Region.wanted,hg]
 rw[if_pos hw]
 have hrun:=Lib.run_copy_row_string (P:=P) w dT sT o.type elem g off dLen dCap t cur ty hu hs hgk hle hfit
 unfold Oper.wp
 simp[execOp,hop,resolve,invoke,builtin,hd,hx,hrun,Result.andThen]
 rw[List.append_assoc] at hK
 exact hK
set_option maxHeartbeats 1000000 in
theorem All_any (b:Nat) (all:ByteArray) (w:World) (h:WrIs w b all 0) (hsz:all.size<=140737488351232) :
  Calls Tryz.prog 164 #[.pointer (some ⟨b,0,none⟩)] w fun r w'=>r=.returned (.tuple #[.string all,.int .i64 0])/\Below w.heap.size w w':=by
 obtain⟨p,l,h1,h2,h3⟩:=h
 have H3:Hid _:=h3
 clear h3
 have hc0:=h1.c0
 have hc1:=h1.c1
 have hc2:=h1.c2
 have hlt:=h1.lt
 have hmk:∀ w,(Instr.makeSlice 83 (.int .i64 (all.size:Int)) (.int .i64 (all.size:Int))).run Tryz.prog w=.ok (.slice (some ⟨w.heap.size,0,none⟩) all.size all.size) (w.alloc (.cells (madeCells #[.int .u8 0] all.size) 5)) :=
  fun w=>run_make_row' 83 5 (.int .u8 0) 1 Tryz.underlying83 (by kernel_rfl) rfl .i64 .i64 all.size (by omega) (by omega) w
 go_enter Tryz.func164,Tryz.ntmps164
 go_wp2
 go_loopw [5,6] (fun en pp wr=>∃ (r:List ByteArray) (q:Option Addr) (C:Array Value) (suf:ByteArray),pp=.pointer q/\Chain b w q r/\en=.int .i64 (joinR r).size/\wr.heap[w.heap.size]?=some (.cells C 5)/\C.size=all.size/\Hid (joinR r++suf=all)/\C.toList.drop (joinR r).size=Lib.byteCells suf.data.toList/\Below w.heap.size w wr) (fun en _ _=>(intOf en).toNat)
 case atStart =>
  refine⟨l,p,_,⟨#[]⟩,rfl,h2,by rw[H3.out],(MapKept.heap_alloc w _).1,size_madeCells _ _,?_,?_,(Below.refl _ _).alloc (Nat.le_refl _) _⟩
  ·show joinR l++⟨#[]⟩=all
   rw[H3.out];apply ByteArray.ext;simp[ByteArray.data_append]
  ·rw[H3.out,List.drop_of_length_le (by simp[size_madeCells])];rfl
 case round =>
  obtain⟨r,q,C,suf,rfl,hch,rfl,hC,hCz,hall,hdrop,hbel⟩:=hrel
  cases r with
  | nil =>
   have hq:q=none:=hch
   subst hq
   have hn0:(joinR []).size=0:=rfl
   have hcv:(convert 83 9 (.slice (some ⟨w.heap.size,0,none⟩) all.size all.size)).run Tryz.prog wr=.ok (.string all) wr:=by
    refine Lib.run_convert_whole (P:=Tryz.prog) wr 83 5 9 Tryz.underlying83 Tryz.underlying5 Tryz.underlying9 w.heap.size 0 all (fun i hi=>?_) all.size
    have hsuf:suf=all:=by rw[← hall.out];apply ByteArray.ext;simp[joinR,ByteArray.data_append]
    rw[hsuf,hn0,List.drop_zero] at hdrop
    have hCi:C=(Lib.byteCells all.data.toList).toArray:=by rw[← hdrop]
    rw[Joins.cell_of_block hC,hCi]
    have hi':i<all.data.size:=hi
    simp[Lib.byteCells]
    exact⟨_,Array.getElem?_eq_getElem hi',rfl⟩
   go_wp2
   go_ret2
   exact⟨rfl,hbel⟩
  | cons t r =>
   obtain⟨c,p',rfl,hcb,hcl,hch0,ht,hch'⟩:=hch
   have hJ:(joinR (t ::r)).size=(joinR r).size+t.size:=by rw[joinR,ByteArray.size_append]
   have hN:(joinR r).size+t.size<=all.size:=by
    have:=congrArg ByteArray.size hall.out
    rw[ByteArray.size_append,hJ] at this
    omega
   have hcw:=(hbel.block c hcl).trans hch0
   have hk0:wr.cell? ⟨c,0,none⟩=some (.pointer p'):=by simp[World.cell?,hcw]
   have hk1:wr.cell? ⟨c,1,none⟩=some (.string t):=by simp[World.cell?,hcw]
   rw[hJ]
   generalize hn:(joinR r).size=n at *
   have hn1:(n:Int)<(all.size:Int):=by omega
   have HJ:Hid _:=hJ
   have HN:Hid _:=hn
   clear hJ hn
   rw[Int.natCast_add]
   have ht1:(t.size:Int)<=(all.size:Int):=by omega
   have hi5:(Tryz.prog.info? 5).map (·.size)=some 1:=by kernel_rfl
   have hle:t.size<=all.size-n:=by omega
   have hfit:n+t.size<=C.size:=by omega
   obtain⟨R,hR⟩:∃ R,R=(C.toList.take n++Lib.byteCells t.data.toList++C.toList.drop (n+t.size)).toArray:=⟨_,rfl⟩
   have HR:Hid _:=hR
   clear hR
   go_wp2
   go_region_held_law (fun w'=>w'.cell? ⟨c,1,none⟩=some (.string t)) (first |exact(cell_setRow_other _ _ _ _ (Nat.ne_of_lt hcl)).trans hk1 |go_keep) (first |(refine step_copy_row rfl (.tmp 46) (.tmp 50) 83 9 rfl 5 Tryz.underlying83 hi5 w.heap.size n (all.size-n) (all.size-n) ?_ t ?_ C 5 ?_ hle hfit R HR.out ?_;simp[Act.eval,Act.put];simp[Act.eval,Act.put];exact hC))
   have hk0':(wr.drew.setRow w.heap.size R).cell? ⟨c,0,none⟩=some (.pointer p'):=(cell_setRow_other _ _ _ _ (Nat.ne_of_lt hcl)).trans hk0
   go_wp2
   go_roundw
   case rel =>
    refine⟨r,p',R,t++suf,rfl,hch',by rw[HN.out],setRow_heap _ _ C R 5 _ hC,?_,?_,?_,(hbel.drew.trans ⟨rfl,rfl,rfl,by simp,fun k hk=>setRow_other _ _ _ _ (Nat.ne_of_lt hk)⟩)⟩
    ·rw[HR.out];simp[Lib.byteCells];omega
    ·show joinR r++(t++suf)=all
     rw[← ByteArray.append_assoc];exact hall.out
    ·rw[HN.out,HR.out]
     rw[HJ.out] at hdrop
     rw[List.append_assoc,List.drop_left' (by simp;omega),hdrop]
     simp[Lib.byteCells,ByteArray.data_append]
   case measure=>simp[intOf];omega
theorem All_err (b:Nat) (all:ByteArray) (e:Int) (w:World) (h:WrIs w b all e) (he:e≠0) :
  Calls Tryz.prog 164 #[.pointer (some ⟨b,0,none⟩)] w fun r w'=>r=.returned (.tuple #[.string ⟨#[]⟩,.int .i64 e])/\Below w.heap.size w w':=by
 obtain⟨p,l,h1,h2,h3⟩:=h
 clear h2 h3
 have hc2:=h1.c2
 have he':(e !=0)=true:=by simpa using he
 go_enter Tryz.func164,Tryz.ntmps164
 go_wp2
 go_quiet (fail)
 go_wp2
 go_ret2
 exact⟨rfl,below_drewN (Below.refl _ _) _⟩
theorem append_nil (s:ByteArray):s++(⟨#[]⟩:ByteArray)=s:=by apply ByteArray.ext;simp[ByteArray.data_append]
theorem beN_be (k:Nat) (n:Nat) (h:n<256 ^ k):beN (be n k)=n:=by
 have key:∀ (k a:Nat),(be n k).foldl (fun a b=>256*a+b.toNat) a=a*256 ^ k+n % 256 ^ k:=by
  intro k
  induction k with
  | zero=>intro a;simp[be,Nat.mod_one]
  | succ k ih =>
   intro a
   rw[be,List.foldl_cons,ih]
   have hb:(UInt8.ofNat (n / 256 ^ k % 256)).toNat=n / 256 ^ k % 256:=by simp
   rw[hb,Nat.pow_succ,Nat.mod_mul]
   rw[Nat.add_mul,Nat.mul_comm 256 a,Nat.mul_assoc,Nat.mul_comm 256 (256 ^ k),Nat.mul_comm (n / 256 ^ k % 256) (256 ^ k)]
   omega
 unfold beN
 rw[key k 0,Nat.mod_eq_of_lt h]
 omega
theorem limI_nat (k:Nat):limI k=((256 ^ k:Nat):Int):=by simp[limI]
theorem extract_left (a b:ByteArray):(a++b).extract 0 a.size=a:=by
 apply ByteArray.ext
 simp[ByteArray.data_extract,ByteArray.data_append]
theorem extract_right (a b:ByteArray):(a++b).extract a.size (a++b).size=b:=by
 apply ByteArray.ext
 simp[ByteArray.data_extract,ByteArray.data_append]
 have e1:a.data.extract a.size (a.size+b.size)=#[]:=by
  apply Array.eq_empty_of_size_eq_zero
  rw[Array.size_extract,show a.size=a.data.size from rfl]
  omega
 have e2:b.data.extract 0 b.size=b.data:=by
  rw[show b.size=b.data.size from rfl]
  simp
 rw[e1,e2]
 simp
theorem rdRaw_app (a b:ByteArray):rdRaw (a++b) 0 a.size=(a,b,0):=by
 rw[rdRaw_fits (by omega) (by rw[ByteArray.size_append];omega),Int.toNat_natCast,extract_left,extract_right]
theorem rdNum_app (n k:Nat) (b:ByteArray) (h1:1<=k) (h6:k<=6) (hn:n<256 ^ k):rdNum (beS n k++b) 0 k=(n,b,0):=by
 unfold rdNum rdNumSt
 rw[if_neg (by omega)]
 have h:=rdRaw_app (beS n k) b
 rw[beS_size] at h
 rw[h]
 show(beN (be n k),_)=_
 rw[beN_be k n hn]
end Go.Proofs.YtdchjncnjgelhaaGreat.Pk
namespace Go.Proofs.YtdchjncnjgelhaaGreat
open Go.RowKit
structure Sc where
 kd:Int
 tx:Int
 pv:Int
 pg:Int
 ac:Int
 ky:ByteArray
 ol:ByteArray
 nw:ByteArray
 nx:Int
 ep:Int
 nd:Int
def Sc.A (s:Sc) (I T:Value):Array Value:=#[.int .i64 s.kd,.int .i64 s.tx,.int .i64 s.pv,.int .i64 s.pg,.int .i64 s.ac,.string s.ky,.string s.ol,.string s.nw,.int .i64 s.nx,I,T,.int .i64 s.ep,.int .i64 s.nd]
def nilV:Value:=.slice none 0 0
def zS:Sc:=⟨0,0,0,0,0,⟨#[]⟩,⟨#[]⟩,⟨#[]⟩,0,0,0⟩
structure RcAt (w:World) (b:Nat) (s:Sc) (I T:Value):Prop where
 blk:w.heap[b]?=some (.cells (s.A I T) 54)
section
variable {w w':World}{b c:Nat}{s:Sc}{I T:Value}
theorem RcAt.c0 (h:RcAt w b s I T):w.cell? ⟨b,0,none⟩=some (.int .i64 s.kd):=Joins.cell_of_block h.blk 0
theorem RcAt.c1 (h:RcAt w b s I T):w.cell? ⟨b,1,none⟩=some (.int .i64 s.tx):=Joins.cell_of_block h.blk 1
theorem RcAt.c2 (h:RcAt w b s I T):w.cell? ⟨b,2,none⟩=some (.int .i64 s.pv):=Joins.cell_of_block h.blk 2
theorem RcAt.c3 (h:RcAt w b s I T):w.cell? ⟨b,3,none⟩=some (.int .i64 s.pg):=Joins.cell_of_block h.blk 3
theorem RcAt.c4 (h:RcAt w b s I T):w.cell? ⟨b,4,none⟩=some (.int .i64 s.ac):=Joins.cell_of_block h.blk 4
theorem RcAt.c5 (h:RcAt w b s I T):w.cell? ⟨b,5,none⟩=some (.string s.ky):=Joins.cell_of_block h.blk 5
theorem RcAt.c6 (h:RcAt w b s I T):w.cell? ⟨b,6,none⟩=some (.string s.ol):=Joins.cell_of_block h.blk 6
theorem RcAt.c7 (h:RcAt w b s I T):w.cell? ⟨b,7,none⟩=some (.string s.nw):=Joins.cell_of_block h.blk 7
theorem RcAt.c8 (h:RcAt w b s I T):w.cell? ⟨b,8,none⟩=some (.int .i64 s.nx):=Joins.cell_of_block h.blk 8
theorem RcAt.c9 (h:RcAt w b s I T):w.cell? ⟨b,9,none⟩=some I:=Joins.cell_of_block h.blk 9
theorem RcAt.c10 (h:RcAt w b s I T):w.cell? ⟨b,10,none⟩=some T:=Joins.cell_of_block h.blk 10
theorem RcAt.c11 (h:RcAt w b s I T):w.cell? ⟨b,11,none⟩=some (.int .i64 s.ep):=Joins.cell_of_block h.blk 11
theorem RcAt.c12 (h:RcAt w b s I T):w.cell? ⟨b,12,none⟩=some (.int .i64 s.nd):=Joins.cell_of_block h.blk 12
theorem RcAt.f (h:RcAt w b s I T) (i:Nat):w.frozen? ⟨b,i,none⟩=false:=Joins.unfrozen_of_block h.blk i
theorem RcAt.lt (h:RcAt w b s I T):b<w.heap.size:=(Array.getElem?_eq_some_iff.1 h.blk).1
theorem RcAt.below (h:RcAt w b s I T) (hb:Below w.heap.size w w'):RcAt w' b s I T:=⟨(hb.block b h.lt).trans h.blk⟩
theorem RcAt.off (h:RcAt w b s I T) (hb:Pk.Off c w w') (hn:b≠c):RcAt w' b s I T:=⟨(hb.block b h.lt hn).trans h.blk⟩
theorem RcAt.drew (h:RcAt w b s I T):RcAt w.drew b s I T:=⟨h.blk⟩
theorem RcAt.set (h:RcAt w b s I T) {k:Nat} {v:Value} {s':Sc} {I' T':Value} (e:(s.A I T).setIfInBounds k v=s'.A I' T'):RcAt (w.setCell ⟨b,k,none⟩ v) b s' I' T':=by
 refine⟨?_⟩
 rw[← e]
 exact Joins.block_setCell h.blk _
end
theorem rc_size (s:Sc) (I T:Value):(s.A I T).size=13:=rfl
theorem info_rc (s:Sc) (I T:Value):(Tryz.prog.info? 54).map (·.size)=some (s.A I T).size:=by
 have:(Tryz.prog.info? 54).map (·.size)=some 13:=by kernel_rfl
 exact this
theorem zero_rc (w:World):(zeroValue 54).run Tryz.prog w=.ok (.agg (zS.A nilV nilV)) w:=by kernel_rfl
theorem thn {w w1 w2:World} (h:Below w.heap.size w w1) (k:Below w1.heap.size w1 w2):Below w.heap.size w w2:=h.trans (k.mono h.size)
structure NewR (w w':World) (b:Nat) (s:Sc) (I T:Value):Prop where
 rc:RcAt w' b s I T
 below:Below w.heap.size w w'
 eq:b=w.heap.size
structure PutR (w w':World) (b:Nat) (s:Sc) (I T:Value):Prop where
 rc:RcAt w' b s I T
 off:Pk.Off b w w'
theorem PutR.below {w w':World} {b B:Nat} {s:Sc} {I T:Value} (h:PutR w w' b s I T) (hB:B<=b) (hw:B<=w.heap.size):Below B w w':=h.off.below hB hw
section
variable {ops:Array Oper}{rest:List Oper}{o:Oper}{a:Act}{Q:Exit->Act->World->Prop}
theorem wpList_at {w:World} (p:Op) (h:o.op=p) (hw:wpList Tryz.prog ops Q (o ::rest) a w):wpList Tryz.prog ops Q (o ::rest) a w:=hw
theorem wpList_box_rc {s:Sc} {I T:Value} (w:World) (hg:o.guard=none) (x:Operand) (hop:o.op=Op.box 54 x) (hx:a.eval x=.agg (s.A I T))
  (h:∀ w' b,NewR w w' b s I T->wpList Tryz.prog ops Q rest (a.put o.dst (.pointer (some ⟨b,0,none⟩))) w'):wpList Tryz.prog ops Q (o ::rest) a w:=by
 refine wpList_plain hg fun K' hK'=>?_
 unfold Oper.wp
 simp[execOp,hop,hx,Instr.box,Result.andThen,Value.cells]
 exact hK' _ _ (h _ _ ⟨⟨(MapKept.heap_alloc w _).1⟩,(Below.refl _ _).alloc (Nat.le_refl _) _,rfl⟩)
theorem wpList_new_rc (w:World) (hg:o.guard=none) (hop:o.op=Op.alloc 54)
  (h:∀ w' b,NewR w w' b zS nilV nilV->wpList Tryz.prog ops Q rest (a.put o.dst (.pointer (some ⟨b,0,none⟩))) w'):wpList Tryz.prog ops Q (o ::rest) a w:=by
 refine wpList_plain hg fun K' hK'=>?_
 unfold Oper.wp
 simp[execOp,hop,Instr.alloc,zero_rc,Result.andThen,Value.cells]
 exact hK' _ _ (h _ _ ⟨⟨(MapKept.heap_alloc w _).1⟩,(Below.refl _ _).alloc (Nat.le_refl _) _,rfl⟩)
theorem wpList_load_rc {b:Nat} {s:Sc} {I T:Value} (w:World) (hg:o.guard=none) (x:Operand) (hop:o.op=Op.load 54 x) (hx:a.eval x=.pointer (some ⟨b,0,none⟩)) (hs:RcAt w b s I T)
  (h:wpList Tryz.prog ops Q rest (a.put o.dst (.agg (s.A I T))) w):wpList Tryz.prog ops Q (o ::rest) a w :=
 wpList_load_row hg 54 x hop b hx 54 _ (0,0) _ hs.blk Tryz.underlying54 rfl (info_rc s I T) h
theorem setCells_rc {w:World} {b:Nat} {s:Sc} {I T:Value} (h:RcAt w b s I T) (s':Sc) (I' T':Value) (h1:∀ v∈(s'.A I' T').toList,v.oneCell'=true):w.setCells b 0 (s'.A I' T').toList=w.setRow b (s'.A I' T'):=by
 have hth:∀ j,j<13->((w.cell? ⟨b,0+j,none⟩).isSome=true):=fun j hj=>by
  rw[cell_of_row w b _ _ 54 (0,0) h.blk]
  simp[rc_size,hj]
 have e1:=run_storeCells_at Tryz.prog b 0 54 (s'.A I' T').toList 0 (s.A I T) w h.blk (by simp[rc_size]) h1
 have e2:=run_storeCells_cells (P:=Tryz.prog) b 0 (s'.A I' T').toList 0 w (fun j hj=>by have:=hth j (by simpa[rc_size] using hj);simpa using this) (fun j hj=>by have:=h.f (0+0+j);simpa using this) h1
 have e:(List.take (0+0) (s.A I T).toList++(s'.A I' T').toList++List.drop (0+0+(s'.A I' T').toList.length) (s.A I T).toList).toArray=s'.A I' T':=rfl
 rw[e,e2] at e1
 simpa using e1
theorem wpList_put_rc {b:Nat} {s s':Sc} {I T I' T':Value} (w:World) (hg:o.guard=none) (x y:Operand) (hop:o.op=Op.store 54 x y)
  (hx:a.eval x=.pointer (some ⟨b,0,none⟩)) (hy:a.eval y=.agg (s'.A I' T')) (hs:RcAt w b s I T) (hI:I'.oneCell'=true) (hT:T'.oneCell'=true)
  (h:∀ w',PutR w w' b s' I' T'->wpList Tryz.prog ops Q rest (a.put o.dst undef) w'):wpList Tryz.prog ops Q (o ::rest) a w:=by
 have h1:∀ v∈(s'.A I' T').toList,v.oneCell'=true:=by
  intro v hv
  simp[Sc.A] at hv
  rcases hv with rfl |rfl |rfl |rfl |rfl |rfl |rfl |rfl |rfl |rfl |rfl |rfl |rfl
  all_goals first |rfl |assumption
 refine wpList_store_mid hg 54 x y hop b 0 (s'.A I' T') hx hy ?_ (info_rc s' I' T') (Array.all_eq_true_iff_forall_mem.2 (fun v hv=>h1 v (by simpa using hv))) ?_
 ·intro j hj
  refine⟨?_,hs.f _⟩
  rw[cell_of_row w b _ _ 54 (0,0) hs.blk]
  have:j<13:=hj
  simp[rc_size,this]
 ·rw[setCells_rc hs s' I' T' h1]
  refine h _ ⟨⟨setRow_heap w b _ _ 54 _ hs.blk⟩,⟨rfl,rfl,rfl,by simp,fun k _ hk=>setRow_other w b k _ hk⟩⟩
theorem wpList_fput {b k:Nat} {s s':Sc} {I T I' T' v:Value} (w:World) (hg:o.guard=none) (t:TypeId) (x y:Operand) (hop:o.op=Op.store t x y)
  (hx:a.eval x=.pointer (some ⟨b,k,none⟩)) (hy:a.eval y=v) (hs:RcAt w b s I T) (hk:k<13) (h1:v.oneCell'=true) (hi:(Tryz.prog.info? t).map (·.size)=some 1)
  (e:(s.A I T).setIfInBounds k v=s'.A I' T')
  (h:∀ w',PutR w w' b s' I' T'->wpList Tryz.prog ops Q rest (a.put o.dst undef) w'):wpList Tryz.prog ops Q (o ::rest) a w:=by
 have hc:∃ u,w.cell? ⟨b,k,none⟩=some u:=by
  rw[cell_of_row w b _ _ 54 (0,0) hs.blk]
  exact⟨_,Array.getElem?_eq_getElem (by rw[rc_size];exact hk)⟩
 obtain⟨u,hu⟩:=hc
 have hf:=hs.f k
 refine wpList_plain hg fun K' hK'=>?_
 unfold Oper.wp
 have hrun:(Instr.storeAt t (.pointer (some ⟨b,k,none⟩)) v).run Tryz.prog w=.ok () (w.setCell ⟨b,k,none⟩ v):=by
  have hcs:v.cells=#[v]:=by cases v <;> first |rfl |cases h1
  have g1:∀ j,j<[v].length->(w.cell? ⟨b,k+0+j,none⟩).isSome=true:=by
   intro j hj
   obtain rfl:j=0:=by simpa using hj
   simp[hu]
  have g2:∀ j,j<[v].length->w.frozen? ⟨b,k+0+j,none⟩=false:=by
   intro j hj
   obtain rfl:j=0:=by simpa using hj
   simpa using hf
  have:=run_storeCells_cells (P:=Tryz.prog) b k [v] 0 w g1 g2 (fun x hx=>by simp at hx;subst hx;exact h1)
  cases hq:Tryz.prog.info? t with
  | none=>simp[hq] at hi
  | some i =>
   have hs:i.size=1:=by simpa[hq] using hi
   simp only[Nat.add_zero] at this
   simp[Instr.storeAt,Instr.sureAddr,storeVar,sizeOf,typeInfo,hq,hcs,hs,this,World.setCells]
 simp[execOp,hop,hx,hy,hrun,Result.andThen]
 exact hK' _ _ (h _ ⟨hs.set e,(Pk.Off.refl _ _).setCell _ _⟩)
end
theorem results_rc1 {fn:Func} {p:Tmp} (h:fn.results=#[.cell p 54]) (tmps:Array Value) (w:World) {b:Nat} {s:Sc} {I T:Value}
  (hp:tmps.getD p undef=.pointer (some ⟨b,0,none⟩)) (hg:RcAt w b s I T):(results fn tmps).run Tryz.prog w=.ok (.agg (s.A I T)) w:=by
 have hl:=run_loadVar_row (P:=Tryz.prog) w b 54 54 (s.A I T) (0,0) _ hg.blk Tryz.underlying54 rfl (info_rc s I T)
 have hp':tmps[p]?.getD undef=.pointer (some ⟨b,0,none⟩):=by simpa using hp
 simp only[results,h]
 simp[Sem.run_bind,Result.andThen,hp',asAddr,hl]
theorem results_rc2 {fn:Func} {p u:Tmp} (h:fn.results=#[.cell p 54,.tmp u]) (tmps:Array Value) (w:World) {b:Nat} {s:Sc} {I T:Value}
  (hp:tmps.getD p undef=.pointer (some ⟨b,0,none⟩)) (hg:RcAt w b s I T):(results fn tmps).run Tryz.prog w=.ok (.tuple #[.agg (s.A I T),tmps.getD u undef]) w:=by
 have hl:=run_loadVar_row (P:=Tryz.prog) w b 54 54 (s.A I T) (0,0) _ hg.blk Tryz.underlying54 rfl (info_rc s I T)
 have hp':tmps[p]?.getD undef=.pointer (some ⟨b,0,none⟩):=by simpa using hp
 simp only[results,h]
 simp[Sem.run_bind,Result.andThen,hp',asAddr,hl]
theorem results_rc3 {fn:Func} {p u v:Tmp} (h:fn.results=#[.cell p 54,.tmp u,.tmp v]) (tmps:Array Value) (w:World) {b:Nat} {s:Sc} {I T:Value}
  (hp:tmps.getD p undef=.pointer (some ⟨b,0,none⟩)) (hg:RcAt w b s I T):(results fn tmps).run Tryz.prog w=.ok (.tuple #[.agg (s.A I T),tmps.getD u undef,tmps.getD v undef]) w:=by
 have hl:=run_loadVar_row (P:=Tryz.prog) w b 54 54 (s.A I T) (0,0) _ hg.blk Tryz.underlying54 rfl (info_rc s I T)
 have hp':tmps[p]?.getD undef=.pointer (some ⟨b,0,none⟩):=by simpa using hp
 simp only[results,h]
 simp[Sem.run_bind,Result.andThen,hp',asAddr,hl]
abbrev Im:=Int × ByteArray
abbrev Tb:=Int × Int
structure Rm where
 s:Sc
 im:List Im
 tb:List Tb
def actOf (s:Sc):Int:=if s.kd=6 then s.ac else s.kd
def cleanS (s:Sc):Sc :=
 if s.kd=3∨s.kd=4∨s.kd=5∨s.kd=6 then
  ⟨s.kd,s.tx,s.pv,s.pg,if s.kd=6 then s.ac else 0,s.ky,if actOf s=3 then⟨#[]⟩ else s.ol,if actOf s=4 then⟨#[]⟩ else s.nw,if s.kd=6 then s.nx else 0,0,0⟩
 else if s.kd=7∨s.kd=8 then⟨s.kd,s.tx,s.pv,0,0,⟨#[]⟩,⟨#[]⟩,⟨#[]⟩,0,0,0⟩
 else if s.kd=10 then⟨s.kd,0,0,0,0,⟨#[]⟩,⟨#[]⟩,⟨#[]⟩,0,s.ep,s.nd⟩
 else⟨s.kd,0,0,0,0,⟨#[]⟩,⟨#[]⟩,⟨#[]⟩,0,0,0⟩
def cleanM (m:Rm):Rm:=⟨cleanS m.s,if m.s.kd=1∨m.s.kd=2 then m.im else [],if m.s.kd=9 then m.tb else []⟩
theorem cleanS_kd (s:Sc):(cleanS s).kd=s.kd:=by
 unfold cleanS;repeat' split
 all_goals rfl
def stepW (A:ByteArray × Int) (n k:Int):ByteArray × Int:=Pk.wrLay A.1 A.2 (Pk.putV ⟨#[]⟩ n k).1 (Pk.putV ⟨#[]⟩ n k).2
def stepT (A:ByteArray × Int) (t:ByteArray):ByteArray × Int:=Pk.wrLay A.1 A.2 (Pk.textV ⟨#[]⟩ t).1 (Pk.textV ⟨#[]⟩ t).2
theorem stepW_size (A:ByteArray × Int) (n k:Int):(stepW A n k).1.size<=A.1.size+6:=by
 have:=(Pk.putV_size n k).1
 unfold stepW Pk.wrLay
 split
 ·exact Nat.le_add_right _ _
 ·split
  ·exact Nat.zero_le _
  ·simp only[ByteArray.size_append];omega
theorem stepT_size (A:ByteArray × Int) (t:ByteArray):(stepT A t).1.size<=A.1.size+65537:=by
 have:=(Pk.textV_size t).1
 unfold stepT Pk.wrLay
 split
 ·exact Nat.le_add_right _ _
 ·split
  ·exact Nat.zero_le _
  ·simp only[ByteArray.size_append];omega
def Bare (A:ByteArray × Int):Prop:=A.2≠0->A.1=⟨#[]⟩
theorem bare0:Bare (⟨#[]⟩,0):=fun h=>absurd rfl h
theorem Bare.lay {A:ByteArray × Int} (h:Bare A) (s:ByteArray) (x:Int):Bare (Pk.wrLay A.1 A.2 s x):=by
 unfold Pk.wrLay
 by_cases h1:A.2≠0
 ·rw[if_pos h1];exact h
 ·rw[if_neg h1]
  by_cases h2:x≠0
  ·rw[if_pos h2];exact fun _=>rfl
  ·rw[if_neg h2];exact fun e=>absurd rfl e
theorem Bare.stepW {A:ByteArray × Int} (h:Bare A) (n k:Int):Bare (stepW A n k):=h.lay _ _
theorem Bare.stepT {A:ByteArray × Int} (h:Bare A) (t:ByteArray):Bare (stepT A t):=h.lay _ _
def layI (l:List Im) (A:ByteArray × Int):ByteArray × Int:=l.foldl (fun A p=>stepT (stepW A p.1 2) p.2) A
def layP (l:List Int) (A:ByteArray × Int):ByteArray × Int:=l.foldl (fun A p=>stepW A p 6) A
def layB (l:List Tb) (A:ByteArray × Int):ByteArray × Int:=l.foldl (fun A p=>stepW (stepW A p.1 6) p.2 6) A
theorem layI_snoc (l:List Im) (p:Im) (A:ByteArray × Int):layI (l++[p]) A=stepT (stepW (layI l A) p.1 2) p.2:=by simp[layI]
theorem layP_snoc (l:List Int) (p:Int) (A:ByteArray × Int):layP (l++[p]) A=stepW (layP l A) p 6:=by simp[layP]
theorem layB_snoc (l:List Tb) (p:Tb) (A:ByteArray × Int):layB (l++[p]) A=stepW (stepW (layB l A) p.1 6) p.2 6:=by simp[layB]
theorem Bare.layI {A:ByteArray × Int} (h:Bare A) (l:List Im):Bare (layI l A):=by
 induction l generalizing A with
 | nil=>exact h
 | cons p r ih=>exact ih ((h.stepW _ _).stepT _)
theorem Bare.layB {A:ByteArray × Int} (h:Bare A) (l:List Tb):Bare (layB l A):=by
 induction l generalizing A with
 | nil=>exact h
 | cons p r ih=>exact ih ((h.stepW _ _).stepW _ _)
theorem Bare.layP {A:ByteArray × Int} (h:Bare A) (l:List Int):Bare (layP l A):=by
 induction l generalizing A with
 | nil=>exact h
 | cons p r ih=>exact ih (h.stepW _ _)
theorem layI_size (l:List Im) (A:ByteArray × Int):(layI l A).1.size<=A.1.size+65543*l.length:=by
 induction l generalizing A with
 | nil=>exact Nat.le_add_right _ _
 | cons p r ih =>
  have h1:=ih (stepT (stepW A p.1 2) p.2)
  have h2:=stepT_size (stepW A p.1 2) p.2
  have h3:=stepW_size A p.1 2
  rw[List.length_cons]
  show(layI r (stepT (stepW A p.1 2) p.2)).1.size<=_
  omega
theorem layB_size (l:List Tb) (A:ByteArray × Int):(layB l A).1.size<=A.1.size+12*l.length:=by
 induction l generalizing A with
 | nil=>exact Nat.le_add_right _ _
 | cons p r ih =>
  have h1:=ih (stepW (stepW A p.1 6) p.2 6)
  have h2:=stepW_size (stepW A p.1 6) p.2 6
  have h3:=stepW_size A p.1 6
  rw[List.length_cons]
  show(layB r (stepW (stepW A p.1 6) p.2 6)).1.size<=_
  omega
theorem layP_size (l:List Int) (A:ByteArray × Int):(layP l A).1.size<=A.1.size+6*l.length:=by
 induction l generalizing A with
 | nil=>exact Nat.le_add_right _ _
 | cons p r ih =>
  have h1:=ih (stepW A p 6)
  have h3:=stepW_size A p 6
  rw[List.length_cons]
  show(layP r (stepW A p 6)).1.size<=_
  omega
def layV (s:Sc) (A:ByteArray × Int):ByteArray × Int :=
 if actOf s=3 then stepT A s.nw else if actOf s=4 then stepT A s.ol else stepT (stepT A s.ol) s.nw
def layC (s:Sc) (A:ByteArray × Int):ByteArray × Int:=layV s (stepT (stepW A s.pg 2) s.ky)
theorem Bare.layC {A:ByteArray × Int} (h:Bare A) (s:Sc):Bare (layC s A):=by
 have h1:=(h.stepW s.pg 2).stepT s.ky
 unfold Go.Proofs.YtdchjncnjgelhaaGreat.layC layV
 split
 ·exact h1.stepT _
 ·split
  ·exact h1.stepT _
  ·exact(h1.stepT _).stepT _
theorem layC_size (s:Sc) (A:ByteArray × Int):(layC s A).1.size<=A.1.size+300000:=by
 have h1:=stepW_size A s.pg 2
 have h2:=stepT_size (stepW A s.pg 2) s.ky
 unfold layC layV
 split
 ·have:=stepT_size (stepT (stepW A s.pg 2) s.ky) s.nw;omega
 ·split
  ·have:=stepT_size (stepT (stepW A s.pg 2) s.ky) s.ol;omega
  ·have:=stepT_size (stepT (stepW A s.pg 2) s.ky) s.ol
   have:=stepT_size (stepT (stepT (stepW A s.pg 2) s.ky) s.ol) s.nw
   omega
def laidF (m:Rm) (A0:ByteArray × Int):ByteArray × Int :=
 let A:=stepW A0 m.s.kd 1
 if m.s.kd=1∨m.s.kd=2 then layI m.im (stepW A m.im.length 1)
 else if m.s.kd=3∨m.s.kd=4∨m.s.kd=5 then layC m.s (layP [m.s.tx,m.s.pv] A)
 else if m.s.kd=6 then layC m.s (stepW (layP [m.s.tx,m.s.pv,m.s.nx] A) m.s.ac 1)
 else if m.s.kd=7∨m.s.kd=8 then layP [m.s.tx,m.s.pv] A
 else if m.s.kd=9 then layB m.tb (stepW A m.tb.length 1)
 else if m.s.kd=10 then stepW (stepW A m.s.ep 4) m.s.nd 1
 else A
def laidM (m:Rm):ByteArray × Int:=laidF m (⟨#[]⟩,0)
def whole (l:List Im):Bool:=l.all (fun p=>decide (p.2.size=224))
def formed (m:Rm):Bool :=
 if m.s.kd=1 then decide (m.im.length=1)&&whole m.im else if m.s.kd=2 then whole m.im else if m.s.kd=6 then decide (m.s.ac=3∨m.s.ac=4∨m.s.ac=5) else true
def refM (m:Rm):Int :=
 if m.s.kd<1∨10<m.s.kd then 1 else if formed m=false then 4 else if 16<m.s.ky.size then 17 else if 32<m.s.ol.size∨32<m.s.nw.size then 18 else 0
def bodyM (m:Rm):ByteArray × Int :=
 if refM m≠0 then(⟨#[]⟩,refM m) else if(laidM m).2≠0 then(⟨#[]⟩,(laidM m).2) else if 4096<(laidM m).1.size then(⟨#[]⟩,3) else((laidM m).1,0)
theorem bodyM_ref {m:Rm} (h:refM m≠0):bodyM m=(⟨#[]⟩,refM m):=by unfold bodyM;rw[if_pos h]
theorem bodyM_err {m:Rm} (h:refM m=0) (h2:(laidM m).2≠0):bodyM m=(⟨#[]⟩,(laidM m).2):=by unfold bodyM;rw[if_neg (by simpa using h),if_pos h2]
theorem bodyM_long {m:Rm} (h:refM m=0) (h2:(laidM m).2=0) (h3:4096<(laidM m).1.size):bodyM m=(⟨#[]⟩,3):=by unfold bodyM;rw[if_neg (by simpa using h),if_neg (by simpa using h2),if_pos h3]
theorem bodyM_good {m:Rm} (h:refM m=0) (h2:(laidM m).2=0) (h3:¬ 4096<(laidM m).1.size):bodyM m=((laidM m).1,0):=by unfold bodyM;rw[if_neg (by simpa using h),if_neg (by simpa using h2),if_neg h3]
theorem bodyM_size (m:Rm):(bodyM m).1.size<=4096:=by
 unfold bodyM
 repeat' split
 ·exact Nat.zero_le _
 ·exact Nat.zero_le _
 ·exact Nat.zero_le _
 ·dsimp only;omega
theorem nil_app (s:ByteArray):(⟨#[]⟩:ByteArray)++s=s:=by apply ByteArray.ext;simp[ByteArray.data_append]
theorem stepW_good {a:ByteArray} {n k:Int} (hk:1<=k) (hk6:k<=6) (h0:0<=n) (h1:n<Pk.limI k.toNat):stepW (a,0) n k=(a++Pk.beS n.toNat k.toNat,0):=by
 unfold stepW
 rw[Pk.putV_fits (by omega) (by omega)]
 simp only[Pk.wrLay]
 rw[if_neg (by simp),if_neg (by simp),nil_app]
theorem stepW_bad {a:ByteArray} {n k:Int} (hk:1<=k) (hk6:k<=6) (h:n<0∨Pk.limI k.toNat<=n):stepW (a,0) n k=(⟨#[]⟩,6):=by
 unfold stepW
 rw[Pk.putV_range (by omega) h]
 simp[Pk.wrLay]
theorem stepW_had {a:ByteArray} {e n k:Int} (h:e≠0):stepW (a,e) n k=(a,e):=by
 unfold stepW Pk.wrLay
 rw[if_pos h]
theorem stepT_good {a t:ByteArray} (h:t.size<=65535):stepT (a,0) t=(a++Pk.beS t.size 2++t,0):=by
 unfold stepT
 rw[Pk.textV_fits (by omega)]
 simp only[Pk.wrLay]
 rw[if_neg (by simp),if_neg (by simp),nil_app,ByteArray.append_assoc]
theorem stepT_had {a t:ByteArray} {e:Int} (h:e≠0):stepT (a,e) t=(a,e):=by
 unfold stepT Pk.wrLay
 rw[if_pos h]
abbrev P2:=Value × Value
structure Cs (w:World) (a:Option Addr) (L:List P2):Prop where
 at_:∀ i (hi:i<L.length),∃ b off,a=some ⟨b,off,none⟩/\b<w.heap.size/\w.cell? ⟨b,off+i*2,none⟩=some L[i].1/\w.cell? ⟨b,off+i*2+1,none⟩=some L[i].2
section
variable {w w':World}{a:Option Addr}{L:List P2}
theorem Cs.nil (w:World) (a:Option Addr):Cs w a []:=⟨fun i hi=>absurd hi (Nat.not_lt_zero _)⟩
theorem Cs.below (h:Cs w a L) (hb:Below w.heap.size w w'):Cs w' a L:=⟨fun i hi=>by
 obtain⟨b,off,h0,h1,h2,h3⟩:=h.at_ i hi
 exact⟨b,off,h0,Nat.lt_of_lt_of_le h1 hb.size,(hb.cell (by exact h1)).trans h2,(hb.cell (by exact h1)).trans h3⟩⟩
theorem Cs.off {c:Nat} (h:Cs w a L) (hb:Pk.Off c w w') (hn:∀ b off,a=some ⟨b,off,none⟩->b≠c):Cs w' a L:=⟨fun i hi=>by
 obtain⟨b,off,h0,h1,h2,h3⟩:=h.at_ i hi
 have e:=hb.block b h1 (hn b off h0)
 exact⟨b,off,h0,Nat.lt_of_lt_of_le h1 hb.size,(World.cell?_of_block e).trans h2,(World.cell?_of_block e).trans h3⟩⟩
end
structure Two (sl el:TypeId) (z:P2):Prop where
 un:Tryz.prog.underlying sl=some (.slice el)
 info:∃ i,Tryz.prog.info? el=some i/\i.zero=some (.agg #[z.1,z.2])/\i.size=2/\i.bytes<=32/\0<i.bytes
 one1:z.1.oneCell'=true
 one2:z.2.oneCell'=true
def prs:List P2->List Value
 | []=>[]
 | c :: r=>c.1 :: c.2 :: prs r
theorem prs_length:∀ xs:List P2,(prs xs).length=xs.length*2
 | []=>rfl
 | c :: r=>by simp only[prs,List.length_cons,prs_length r];omega
theorem prs_append:∀ xs ys:List P2,prs (xs++ys)=prs xs++prs ys
 | [],_=>rfl
 | c :: r,ys=>by simp only[List.cons_append,prs,prs_append r ys]
theorem prs_get:∀ (xs:List P2) (i:Nat) (hi:i<xs.length),(prs xs)[i*2]?=some xs[i].1/\(prs xs)[i*2+1]?=some xs[i].2
 | c :: r,0,_=>⟨rfl,rfl⟩
 | c :: r,i+1,hi=>by
  have:=prs_get r i (by simpa using hi)
  rw[show(i+1)*2=i*2+1+1 by omega]
  simpa[prs] using this
def Ones (xs:List P2):Prop:=∀ p∈xs,p.1.oneCell'=true/\p.2.oneCell'=true
theorem prs_one:∀ xs:List P2,Ones xs->∀ u∈prs xs,u.oneCell'=true
 | [],_,u,hu=>by cases hu
 | c :: r,h,u,hu=>by
  rcases List.mem_cons.1 hu with rfl |hu
  ·exact(h c (List.mem_cons_self ..)).1
  ·rcases List.mem_cons.1 hu with rfl |hu
   ·exact(h c (List.mem_cons_self ..)).2
   ·exact prs_one r (fun p hp=>h p (List.mem_cons_of_mem _ hp)) u hu
def Row (el:TypeId) (w:World) (a:Option Addr) (cap:Nat) (xs:List P2):Prop :=
 (a=none/\cap=0/\xs=[]) ∨
 ∃ g cur,a=some ⟨g,0,none⟩/\w.heap[g]?=some (.cells cur el (0,0))/\xs.length<=cap/\cap<=maxLen/\cap*2<=cur.size/\cur.toList.take (xs.length*2)=prs xs
def own (a:Option Addr):Option Nat:=a.map (·.block)
theorem Row.nil (el:TypeId) (w:World):Row el w none 0 []:=.inl ⟨rfl,rfl,rfl⟩
theorem Row.cs {el:TypeId} {w:World} {a:Option Addr} {cap:Nat} {xs:List P2} (h:Row el w a cap xs):Cs w a xs:=⟨fun i hi=>by
 rcases h with⟨_,_,rfl⟩ |⟨g,cur,rfl,hg,h1,h2,h3,h4⟩
 ·exact absurd hi (Nat.not_lt_zero _)
 ·have hp:=prs_get xs i hi
  rw[← h4,List.getElem?_take,if_pos (by omega),List.getElem?_take,if_pos (by omega)] at hp
  refine⟨g,0,rfl,(Array.getElem?_eq_some_iff.1 hg).1,?_,?_⟩
  ·rw[cell_of_row w g _ cur el (0,0) hg,Nat.zero_add];simpa using hp.1
  ·rw[cell_of_row w g _ cur el (0,0) hg,Nat.zero_add];simpa using hp.2⟩
theorem Row.lt {el:TypeId} {w:World} {a:Option Addr} {cap:Nat} {xs:List P2} (h:Row el w a cap xs):∀ k,own a=some k->k<w.heap.size:=by
 intro k hk
 rcases h with⟨rfl,_,_⟩ |⟨g,cur,rfl,hg,_⟩
 ·cases hk
 ·simp[own] at hk
  subst hk
  exact(Array.getElem?_eq_some_iff.1 hg).1
theorem Row.kept {el:TypeId} {w w':World} {a:Option Addr} {cap:Nat} {xs:List P2} (h:Row el w a cap xs) (hb:∀ k,own a=some k->w'.heap[k]?=w.heap[k]?):Row el w' a cap xs:=by
 rcases h with h0 |⟨g,cur,rfl,hg,h1⟩
 ·exact .inl h0
 ·exact .inr ⟨g,cur,rfl,(hb g rfl).trans hg,h1⟩
theorem Row.below {el:TypeId} {w w':World} {a:Option Addr} {cap:Nat} {xs:List P2} (h:Row el w a cap xs) (hb:Below w.heap.size w w'):Row el w' a cap xs:=h.kept (fun k hk=>hb.block k (h.lt k hk))
theorem cs_prs {w:World} {b off:Nat} {news:List P2} (h:Cs w (some ⟨b,off,none⟩) news):∀ j u,(prs news)[j]?=some u->w.cell? ((⟨b,off,none⟩:Addr).add j)=some u:=by
 intro j u hu
 have hj:j<news.length*2:=by
  have:=(List.getElem?_eq_some_iff.1 hu).1
  rwa [prs_length] at this
 obtain⟨b',off',h0,_,h2,h3⟩:=h.at_ (j / 2) (by omega)
 cases h0
 have hp:=prs_get news (j / 2) (by omega)
 rw[Addr.add_mid]
 rcases Nat.mod_two_eq_zero_or_one j with e |e
 ·have ej:j / 2*2=j:=by omega
  rw[ej] at hp h2
  rw[hp.1] at hu
  cases hu
  exact h2
 ·have ej:j / 2*2+1=j:=by omega
  rw[ej] at hp
  rw[hp.2] at hu
  cases hu
  rw[← h3]
  congr 2
  omega
theorem row_appendB {sl el:TypeId} {z:P2} (hT:Two sl el z) {w:World} (ty:TypeId) {a:Option Addr} {cap:Nat} {xs:List P2} (h:Row el w a cap xs) (ad:Addr) (m c:Nat) (news:List P2) (hm:news.length=m)
  (hnews:∀ j u,(prs news)[j]?=some u->w.cell? (ad.add j)=some u) (ho1:Ones news) (hzB:∀ i,Tryz.prog.info? el=some i->(xs.length+m)*i.bytes<=140737488351232) :
  ∃ a' cap' w',(Builtin.append_ #[sl,sl] ty #[.slice a xs.length cap,.slice (some ad) m c]).run Tryz.prog w=.ok (.slice a' (xs.length+m) cap') w'/\Row el w' a' cap' (xs++news) /\
   w.grownBy w' (own a)/\(own a'=own a∨own a'=some w.heap.size):=by
 obtain⟨i,hi,hz0,hz1,hz2,hz3⟩:=hT.info
 have hzb:=hzB i hi
 have hz:xs.length+m<=140737488351232:=Nat.le_trans (Nat.le_mul_of_pos_right _ hz3) hzb
 have hl:(prs news).length=m*i.size:=by rw[prs_length,hz1,hm]
 have hlen:(xs++news).length=xs.length+m:=by rw[List.length_append,hm]
 have grown:∀ (old:Nat),old<xs.length+m->∀ (row:Option Nat),
   Row el (w.drew.alloc (.cells ((prs xs).toArray++(prs news).toArray++Builtin.zeroCells (Value.agg #[z.1,z.2]).cells (grownCap w (xs.length+m) old el-(xs.length+m))) el)) (some ⟨w.heap.size,0,none⟩) (grownCap w (xs.length+m) old el) (xs++news) /\
   w.grownBy (w.drew.alloc (.cells ((prs xs).toArray++(prs news).toArray++Builtin.zeroCells (Value.agg #[z.1,z.2]).cells (grownCap w (xs.length+m) old el-(xs.length+m))) el)) row:=by
  intro old ho row
  have hge:=grownCap_ge w (xs.length+m) old el
  have hcm:grownCap w (xs.length+m) old el<=maxLen:=grownCap_le_maxLen w (xs.length+m) old el (by unfold maxLen;omega)
  refine⟨.inr ⟨w.heap.size,_,rfl,heap_alloc_new w.drew _,by rw[hlen];exact hge,hcm,?_,?_⟩,⟨rfl,rfl,rfl,by simp,fun k hk _=>heap_alloc_old w.drew _ hk⟩⟩
  ·have e1:(Value.agg #[z.1,z.2]).cells.size=2:=rfl
   simp only[Array.size_append,List.size_toArray,size_zeroCells,prs_length,e1]
   omega
  ·rw[hlen]
   simp only[Array.toList_append]
   rw[← prs_append,List.take_left' (by rw[prs_length,hlen])]
 rcases h with⟨rfl,rfl,rfl⟩ |⟨g,cur,rfl,hg,h1,h2,h3,h4⟩
 ·simp only[List.length_nil,Nat.zero_add,List.nil_append] at hlen grown ⊢
  by_cases hm0:m=0
  ·subst hm0
   have hn0:news=[]:=List.eq_nil_of_length_eq_zero hm
   subst hn0
   refine⟨none,0,w,?_,Row.nil el w,⟨rfl,rfl,rfl,Nat.le_refl _,fun _ _ _=>rfl⟩,.inl rfl⟩
   simp[Builtin.append_,run_underlying hT.un,sizeOf,typeInfo,hi,Builtin.lenOf,Builtin.firstCells,loadCells,loadCellsFrom]
  ·have hr:=run_append_nil (P:=Tryz.prog) w sl ty el i _ hT.un hi hz0 ad m c (prs news) hl hnews (by omega) (by omega) (by simp only[List.length_nil,Nat.zero_add] at hzb;omega)
   have hgr:=grown 0 (by omega) (own none)
   have e0:(prs []).toArray=(#[]:Array Value):=rfl
   rw[e0,Array.empty_append] at hgr
   exact⟨_,_,_,hr,hgr.1,hgr.2,.inr rfl⟩
 ·by_cases hroom:xs.length+m<=cap
  ·have hfit:xs.length*i.size+(prs news).length<=cur.size:=by rw[hl,hz1];omega
   have hr:=run_append_room (P:=Tryz.prog) w sl ty el i hT.un hi g xs.length cap cur hg ad m c (prs news) hl hnews (prs_one _ ho1) hroom hfit
   refine⟨_,_,_,hr,.inr ⟨g,_,rfl,setRow_heap w g cur _ el _ hg,by rw[hlen];exact hroom,h2,?_,?_⟩,⟨rfl,rfl,rfl,by simp,fun k _ hk=>setRow_other w g k _ (fun e=>hk (by simp[own,e]))⟩,.inl rfl⟩
   ·simp only[List.size_toArray,List.length_append,List.length_take,List.length_drop,Array.length_toList]
    omega
   ·rw[hz1,h4,← prs_append,List.take_left' (by rw[prs_length])]
  ·have holds:∀ j u,(prs xs)[j]?=some u->w.cell? ((⟨g,0,none⟩:Addr).add j)=some u:=by
    intro j u hu
    have hadd:(⟨g,0,none⟩:Addr).add j=⟨g,j,none⟩:=by unfold Addr.add;split <;> simp_all
    rw[hadd,cell_of_row w g j cur el (0,0) hg]
    rw[← h4,List.getElem?_take] at hu
    split at hu
    ·simpa using hu
    ·cases hu
   have hr:=run_append_grow (P:=Tryz.prog) w sl ty el i _ hT.un hi hz0 ⟨g,0,none⟩ xs.length cap (prs xs) (by rw[prs_length,hz1]) holds ad m c (prs news) hl hnews (by omega) (by omega) (growslice_fits (by omega) (by omega))
   have hgr:=grown cap (by omega) (own (some ⟨g,0,none⟩))
   exact⟨_,_,_,hr,hgr.1,hgr.2,.inr rfl⟩
theorem hzB_of {sl el:TypeId} {z:P2} (hT:Two sl el z) {n:Nat} (hz:n<=100000):∀ i,Tryz.prog.info? el=some i->n*i.bytes<=140737488351232:=fun i hi=>by
 obtain⟨i',hi',_,_,hz2,_⟩:=hT.info
 rw[hi] at hi'
 cases hi'
 have:=Nat.mul_le_mul hz hz2
 omega
theorem row_append_none {sl el:TypeId} {z:P2} (hT:Two sl el z) {w:World} (ty:TypeId) {a:Option Addr} {cap:Nat} {xs:List P2} (h:Row el w a cap xs) :
  (Builtin.append_ #[sl,sl] ty #[.slice a xs.length cap,.slice none 0 0]).run Tryz.prog w=.ok (.slice a xs.length cap) w:=by
 obtain⟨i,hi,hz0,hz1,hz2,hz3⟩:=hT.info
 have hle:xs.length<=cap:=by
  rcases h with⟨rfl,rfl,rfl⟩ |⟨g,cur,rfl,hg,h1,h2,h3,h4⟩
  ·simp
  ·exact h1
 rcases h with⟨rfl,rfl,rfl⟩ |⟨g,cur,rfl,hg,h1,h2,h3,h4⟩
 ·simp[Builtin.append_,run_underlying hT.un,sizeOf,typeInfo,hi,Builtin.lenOf,Builtin.firstCells,loadCells,loadCellsFrom]
 ·simp[Builtin.append_,run_underlying hT.un,sizeOf,typeInfo,hi,Builtin.lenOf,Builtin.firstCells,loadCells,loadCellsFrom,hle,storeCells]
structure Own (el:TypeId) (B:Nat) (w:World) (a:Option Addr) (cap:Nat) (xs:List P2):Prop where
 row:Row el w a cap xs
 fresh:∀ k,own a=some k->B<=k
theorem Own.nil (el:TypeId) (B:Nat) (w:World):Own el B w none 0 []:=⟨Row.nil el w,fun k h=>by cases h⟩
theorem Own.below {el:TypeId} {B:Nat} {w w':World} {a:Option Addr} {cap:Nat} {xs:List P2} (h:Own el B w a cap xs) (hb:Below w.heap.size w w'):Own el B w' a cap xs:=⟨h.row.below hb,h.fresh⟩
theorem own_appendB {sl el:TypeId} {z:P2} (hT:Two sl el z) {B:Nat} {w:World} (ty:TypeId) {a:Option Addr} {cap:Nat} {xs:List P2} (h:Own el B w a cap xs) (hB:B<=w.heap.size) (src:Option Addr) (m c:Nat) (news:List P2) (hm:news.length=m) (hc:src=none->c=0) (hn:Cs w src news) (ho1:Ones news) (hz:∀ i,Tryz.prog.info? el=some i->(xs.length+m)*i.bytes<=140737488351232) :
  ∃ a' cap' w',(Builtin.append_ #[sl,sl] ty #[.slice a xs.length cap,.slice src m c]).run Tryz.prog w=.ok (.slice a' (xs.length+m) cap') w'/\Own el B w' a' cap' (xs++news)/\Below B w w':=by
 have fin:∀ {a':Option Addr} {cap':Nat} {w':World},Row el w' a' cap' (xs++news)->w.grownBy w' (own a)->(own a'=own a∨own a'=some w.heap.size)->Own el B w' a' cap' (xs++news)/\Below B w w':=by
  intro a' cap' w' h1 h2 h3
  refine⟨⟨h1,fun k hk=>?_⟩,⟨h2.os,h2.tape,h2.output,h2.size,fun k hk=>h2.block k (by omega) (fun e=>?_)⟩⟩
  ·rcases h3 with e |e
   ·exact h.fresh k (e ▸ hk)
   ·rw[e] at hk;cases hk;exact hB
  ·have:=h.fresh k e.symm
   omega
 by_cases hnil:news=[]
 ·subst hnil
  simp at hm
  subst hm
  cases src with
  | none =>
   have:=hc rfl
   subst this
   exact⟨a,cap,w,by rw[Nat.add_zero];exact row_append_none hT ty h.row,by rw[List.append_nil];exact h,Below.refl _ _⟩
  | some ad =>
   obtain⟨a',cap',w',hr,h1,h2,h3⟩:=row_appendB hT ty h.row ad 0 c [] rfl (fun j u hu=>by simp[prs] at hu) (fun p hp=>by cases hp) hz
   exact⟨a',cap',w',hr,fin h1 h2 h3⟩
 ·obtain⟨b,off,e,_⟩:=hn.at_ 0 (List.length_pos_iff.2 hnil)
  subst e
  obtain⟨a',cap',w',hr,h1,h2,h3⟩:=row_appendB hT ty h.row ⟨b,off,none⟩ m c news hm (cs_prs hn) ho1 hz
  exact⟨a',cap',w',hr,fin h1 h2 h3⟩
theorem wp_append_ownB {sl el:TypeId} {z:P2} (hT:Two sl el z) {B:Nat} {w:World} {o:Oper} {act:Act} {K:Act->World->Prop} {Q:Exit->Act->World->Prop} (s x:Operand)
  (ho:o.op=.call {callee:=.builtin .append,args:=#[s,x],argTypes:=#[sl,sl]})
  {a:Option Addr} {cap n:Nat} {xs:List P2} (hs:act.eval s=.slice a n cap) (hl:n=xs.length) (hrow:Own el B w a cap xs) (hB:B<=w.heap.size)
  {src:Option Addr} {m c:Nat} {news:List P2} (hx:act.eval x=.slice src m c) (hm:news.length=m) (hc:src=none->c=0) (hn:Cs w src news) (ho1:Ones news) (hz:∀ i,Tryz.prog.info? el=some i->(n+m)*i.bytes<=140737488351232)
  (h:∀ a' cap' w',Own el B w' a' cap' (xs++news)->Below B w w'->K (act.put o.dst (.slice a' (n+m) cap')) w'):o.wp Tryz.prog act w K Q:=by
 subst hl
 obtain⟨a',cap',w',hr,h2,h3⟩:=own_appendB hT o.type hrow hB src m c news hm hc hn ho1 hz
 unfold Oper.wp execOp
 simp only[ho,resolve,invoke,builtin,Sem.run_bind,Sem.run_pure,Result.andThen_ok,List.map_toArray,List.map_cons,List.map_nil,hs,hx,hr]
 exact h a' cap' w' h2 h3
theorem wp_append_own {sl el:TypeId} {z:P2} (hT:Two sl el z) {B:Nat} {w:World} {o:Oper} {act:Act} {K:Act->World->Prop} {Q:Exit->Act->World->Prop} (s x:Operand)
  (ho:o.op=.call {callee:=.builtin .append,args:=#[s,x],argTypes:=#[sl,sl]})
  {a:Option Addr} {cap n:Nat} {xs:List P2} (hs:act.eval s=.slice a n cap) (hl:n=xs.length) (hrow:Own el B w a cap xs) (hB:B<=w.heap.size)
  {src:Option Addr} {m c:Nat} {news:List P2} (hx:act.eval x=.slice src m c) (hm:news.length=m) (hc:src=none->c=0) (hn:Cs w src news) (ho1:Ones news) (hz:n+m<=100000)
  (h:∀ a' cap' w',Own el B w' a' cap' (xs++news)->Below B w w'->K (act.put o.dst (.slice a' (n+m) cap')) w'):o.wp Tryz.prog act w K Q:=by
 exact wp_append_ownB hT s x ho hs hl hrow hB hx hm hc hn ho1 (hzB_of hT hz) h
theorem wpList_append_ownB {sl el:TypeId} {z:P2} (hT:Two sl el z) {B:Nat} {w:World} {ops:Array Oper} {rest:List Oper} {o:Oper} {act:Act} {Q:Exit->Act->World->Prop} (hgd:o.guard=none) (s x:Operand)
  (ho:o.op=.call {callee:=.builtin .append,args:=#[s,x],argTypes:=#[sl,sl]})
  {a:Option Addr} {cap n:Nat} {xs:List P2} (hs:act.eval s=.slice a n cap) (hl:n=xs.length) (hrow:Own el B w a cap xs) (hB:B<=w.heap.size)
  {src:Option Addr} {m c:Nat} {news:List P2} (hx:act.eval x=.slice src m c) (hm:news.length=m) (hc:src=none->c=0) (hn:Cs w src news) (ho1:Ones news) (hz:∀ i,Tryz.prog.info? el=some i->(n+m)*i.bytes<=140737488351232)
  (h:∀ a' cap' w',Own el B w' a' cap' (xs++news)->Below B w w'->wpList Tryz.prog ops Q rest (act.put o.dst (.slice a' (n+m) cap')) w'):wpList Tryz.prog ops Q (o ::rest) act w :=
 wpList_plain hgd fun _ hK=>wp_append_ownB hT s x ho hs hl hrow hB hx hm hc hn ho1 hz fun a' cap' w' h2 h3=>hK _ _ (h a' cap' w' h2 h3)
theorem wpList_append_own' {sl el:TypeId} {z:P2} (hT:Two sl el z) {B:Nat} {w:World} {ops:Array Oper} {rest:List Oper} {o:Oper} {act:Act} {Q:Exit->Act->World->Prop} (hgd:o.guard=none) (s x:Operand)
  (ho:o.op=.call {callee:=.builtin .append,args:=#[s,x],argTypes:=#[sl,sl]})
  {a:Option Addr} {cap n:Nat} {xs:List P2} (hs:act.eval s=.slice a n cap) (hl:n=xs.length) (hrow:Own el B w a cap xs) (hB:B<=w.heap.size)
  {src:Option Addr} {m c:Nat} {news:List P2} (hx:act.eval x=.slice src m c) (hm:news.length=m) (hc:src=none->c=0) (hn:Cs w src news) (ho1:Ones news) (hz:n+m<=100000)
  (h:∀ a' cap' w',Own el B w' a' cap' (xs++news)->Below B w w'->wpList Tryz.prog ops Q rest (act.put o.dst (.slice a' (n+m) cap')) w'):wpList Tryz.prog ops Q (o ::rest) act w :=
 wpList_plain hgd fun _ hK=>wp_append_own hT s x ho hs hl hrow hB hx hm hc hn ho1 hz fun a' cap' w' h2 h3=>hK _ _ (h a' cap' w' h2 h3)
theorem two_im:Two 52 266 (.int .i64 0,.string ⟨#[]⟩) :=
 ⟨Tryz.underlying52,by
  obtain⟨i,h1,h2,h3,h4⟩:=info_parts (show(Tryz.prog.info? 266).map (fun i=>(i.zero,i.size,i.bytes))=some (some (.agg #[.int .i64 0,.string ⟨#[]⟩]),2,24) by kernel_rfl)
  exact⟨i,h1,h2,h3,by omega,by omega⟩,rfl,rfl⟩
theorem two_tb:Two 35 40 (.int .i64 0,.int .i64 0) :=
 ⟨Tryz.underlying35,by
  obtain⟨i,h1,h2,h3,h4⟩:=info_parts (show(Tryz.prog.info? 40).map (fun i=>(i.zero,i.size,i.bytes))=some (some (.agg #[.int .i64 0,.int .i64 0]),2,16) by kernel_rfl)
  exact⟨i,h1,h2,h3,by omega,by omega⟩,rfl,rfl⟩
def encI (l:List Im):List P2:=l.map fun p=>(.int .i64 p.1,.string p.2)
def encT (l:List Tb):List P2:=l.map fun p=>(.int .i64 p.1,.int .i64 p.2)
theorem encI_length (l:List Im):(encI l).length=l.length:=by simp[encI]
theorem encT_length (l:List Tb):(encT l).length=l.length:=by simp[encT]
theorem encI_ones (l:List Im):Ones (encI l):=by
 intro p hp
 obtain⟨q,_,rfl⟩:=List.mem_map.1 hp
 exact⟨rfl,rfl⟩
theorem encT_ones (l:List Tb):Ones (encT l):=by
 intro p hp
 obtain⟨q,_,rfl⟩:=List.mem_map.1 hp
 exact⟨rfl,rfl⟩
theorem encI_append (a b:List Im):encI (a++b)=encI a++encI b:=by simp[encI]
theorem encT_append (a b:List Tb):encT (a++b)=encT a++encT b:=by simp[encT]
structure SlI (w:World) (v:Value) (l:List Im):Prop where
 ex:∃ a c,v=.slice a l.length c/\Cs w a (encI l)/\(a=none->c=0)/\l.length<=c/\(l≠[]->∀ ad,a=some ad->ad.spot=none)
structure SlT (w:World) (v:Value) (l:List Tb):Prop where
 ex:∃ a c,v=.slice a l.length c/\Cs w a (encT l)/\(a=none->c=0)/\l.length<=c/\(l≠[]->∀ ad,a=some ad->ad.spot=none)
section
variable {w w':World}{v:Value}{l:List Im}{g:List Tb}
theorem SlI.below (h:SlI w v l) (hb:Below w.heap.size w w'):SlI w' v l:=by
 obtain⟨a,c,h0,h1,h2⟩:=h.ex;exact⟨a,c,h0,h1.below hb,h2⟩
theorem SlT.below (h:SlT w v g) (hb:Below w.heap.size w w'):SlT w' v g:=by
 obtain⟨a,c,h0,h1,h2⟩:=h.ex;exact⟨a,c,h0,h1.below hb,h2⟩
theorem SlI.one (h:SlI w v l):v.oneCell'=true:=by obtain⟨a,c,rfl,_⟩:=h.ex;rfl
theorem SlT.one (h:SlT w v g):v.oneCell'=true:=by obtain⟨a,c,rfl,_⟩:=h.ex;rfl
theorem SlI.nil (w:World):SlI w nilV []:=⟨none,0,rfl,Cs.nil _ _,fun _=>rfl,Nat.le_refl _,fun _ _ h=>by cases h⟩
theorem SlT.nil (w:World):SlT w nilV []:=⟨none,0,rfl,Cs.nil _ _,fun _=>rfl,Nat.le_refl _,fun _ _ h=>by cases h⟩
theorem csI_at {a:Option Addr} (h:Cs w a (encI l)) {i:Nat} (hi:i<l.length):∃ b off,a=some ⟨b,off,none⟩/\b<w.heap.size/\∀ w',Below w.heap.size w w'->w'.cell? ⟨b,off+i*2,none⟩=some (.int .i64 l[i].1)/\w'.cell? ⟨b,off+i*2+1,none⟩=some (.string l[i].2):=by
 obtain⟨b,off,h0,h1,h2,h3⟩:=h.at_ i (by rw[encI_length];exact hi)
 simp only[encI,List.getElem_map] at h2 h3
 exact⟨b,off,h0,h1,fun w' hb=>⟨(hb.cell (by exact h1)).trans h2,(hb.cell (by exact h1)).trans h3⟩⟩
theorem csT_at {a:Option Addr} (h:Cs w a (encT g)) {i:Nat} (hi:i<g.length):∃ b off,a=some ⟨b,off,none⟩/\b<w.heap.size/\∀ w',Below w.heap.size w w'->w'.cell? ⟨b,off+i*2,none⟩=some (.int .i64 g[i].1)/\w'.cell? ⟨b,off+i*2+1,none⟩=some (.int .i64 g[i].2):=by
 obtain⟨b,off,h0,h1,h2,h3⟩:=h.at_ i (by rw[encT_length];exact hi)
 simp only[encT,List.getElem_map] at h2 h3
 exact⟨b,off,h0,h1,fun w' hb=>⟨(hb.cell (by exact h1)).trans h2,(hb.cell (by exact h1)).trans h3⟩⟩
end
structure Fr (w:World) (v:Value) (L:List P2) (B:Nat):Prop where
 ex:∃ a c,v=.slice a L.length c/\Cs w a L/\(a=none->c=0)/\L.length<=c/\(∀ ad,a=some ad->ad.spot=none)/\(∀ b off,a=some ⟨b,off,none⟩->B<=b)
theorem Fr.off {w w':World} {v:Value} {L:List P2} {B b:Nat} (h:Fr w v L B) (o:Pk.Off b w w') (hb:b<B):Fr w' v L B:=by
 obtain⟨a,c,h0,h1,h2,h3,h4,h5⟩:=h.ex
 exact⟨a,c,h0,h1.off o (fun b' off e=>by have:=h5 b' off e;omega),h2,h3,h4,h5⟩
theorem Fr.below {w w':World} {v:Value} {L:List P2} {B:Nat} (h:Fr w v L B) (o:Below w.heap.size w w'):Fr w' v L B:=by
 obtain⟨a,c,h0,h1,h2,h3,h4,h5⟩:=h.ex
 exact⟨a,c,h0,h1.below o,h2,h3,h4,h5⟩
theorem Own.fr {el:TypeId} {B:Nat} {w:World} {a:Option Addr} {cap:Nat} {L:List P2} (h:Own el B w a cap L):Fr w (.slice a L.length cap) L B:=by
 refine⟨a,cap,rfl,h.row.cs,?_,?_,?_,fun b off e=>h.fresh b (by simp[own,e])⟩
 ·rintro rfl
  rcases h.row with⟨_,h1,_⟩ |⟨g,cur,h1,_⟩
  ·exact h1
  ·cases h1
 ·rcases h.row with⟨_,h1,h2⟩ |⟨g,cur,h1,_,h2,_⟩
  ·rw[h2];exact Nat.zero_le _
  ·exact h2
 ·intro ad e
  rcases h.row with⟨h0,_,_⟩ |⟨g,cur,h1,_,h2,_⟩
  ·rw[h0] at e;cases e
  ·rw[h1] at e;cases e;rfl
theorem Own.frI {el:TypeId} {B:Nat} {w:World} {a:Option Addr} {cap:Nat} (l:List Im) (h:Own el B w a cap ([]++encI l)):Fr w (.slice a l.length cap) (encI l) B:=by
 have:=h.fr
 rw[List.nil_append,encI_length] at this
 exact this
theorem Own.frT {el:TypeId} {B:Nat} {w:World} {a:Option Addr} {cap:Nat} (l:List Tb) (h:Own el B w a cap ([]++encT l)):Fr w (.slice a l.length cap) (encT l) B:=by
 have:=h.fr
 rw[List.nil_append,encT_length] at this
 exact this
theorem Fr.slI {w:World} {v:Value} {l:List Im} {B:Nat} (h:Fr w v (encI l) B):SlI w v l:=by
 obtain⟨a,c,h0,h1,h2,h3,h4,h5⟩:=h.ex
 rw[encI_length] at h0 h3
 exact⟨a,c,h0,h1,h2,h3,fun _=>h4⟩
theorem Fr.slT {w:World} {v:Value} {l:List Tb} {B:Nat} (h:Fr w v (encT l) B):SlT w v l:=by
 obtain⟨a,c,h0,h1,h2,h3,h4,h5⟩:=h.ex
 rw[encT_length] at h0 h3
 exact⟨a,c,h0,h1,h2,h3,fun _=>h4⟩
structure RecV (w:World) (v:Value) (m:Rm):Prop where
 ex:∃ I T,v=.agg (m.s.A I T)/\SlI w I m.im/\SlT w T m.tb
theorem RecV.below {w w':World} {v:Value} {m:Rm} (h:RecV w v m) (hb:Below w.heap.size w w'):RecV w' v m:=by
 obtain⟨I,T,h0,h1,h2⟩:=h.ex;exact⟨I,T,h0,h1.below hb,h2.below hb⟩
end Go.Proofs.YtdchjncnjgelhaaGreat
