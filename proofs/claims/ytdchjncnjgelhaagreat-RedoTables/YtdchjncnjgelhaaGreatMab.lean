import Derived.Test.YtdchjncnjgelhaaGreatMaa
import Derived.Laws.BytesArg
set_option linter.unusedVariables false
set_option linter.unusedSimpArgs false
set_option maxRecDepth 100000
namespace Go.Proofs.YtdchjncnjgelhaaGreat.Pk
open Go.RowKit
def be (n:Nat):Nat->List UInt8
 | 0=>[]
 | k+1=>UInt8.ofNat (n / 256 ^ k % 256) :: be n k
def beS (n k:Nat):ByteArray:=⟨(be n k).toArray⟩
theorem be_length (n k:Nat):(be n k).length=k:=by induction k <;> simp[be, *]
theorem beS_size (n k:Nat):(beS n k).size=k:=by simp[beS,ByteArray.size,be_length]
theorem byte_0 (n:Nat):((n:Int) % 256).toNat=n % 256:=by omega
theorem byte_1 (n:Nat):((n:Int) / 256 % 256).toNat=n / 256 % 256:=by omega
theorem byte_2 (n:Nat):((n:Int) / 65536 % 256).toNat=n / 65536 % 256:=by omega
theorem byte_3 (n:Nat):((n:Int) / 16777216 % 256).toNat=n / 16777216 % 256:=by omega
theorem byte_4 (n:Nat):((n:Int) / 4294967296 % 256).toNat=n / 4294967296 % 256:=by omega
theorem byte_5 (n:Nat):((n:Int) / 1099511627776 % 256).toNat=n / 1099511627776 % 256:=by omega
theorem beS_1 (n:Nat):beS n 1=⟨#[UInt8.ofNat (n % 256)]⟩:=by
 simp[beS,be]
set_option maxHeartbeats 1000000 in
theorem num_1 (n:Nat) (w:World) (hn:n<=281474976710656) :
  Calls Tryz.prog 131 #[.int .i64 n,.int .i64 1] w fun e w'=>e=.returned (.string (beS n 1))/\Below w.heap.size w w':=by
 have hmf:∀ (fn:Fn) (first cap:Array Value) (w:World),(Instr.makeFunc fn first cap).run Tryz.prog w=.ok (.func fn first cap) w:=fun _ _ _ _=>rfl
 have hmk:∀ w,(Instr.makeSlice 83 (.int .i64 0) (.int .i64 6)).run Tryz.prog w=.ok (.slice (some ⟨w.heap.size,0,none⟩) 0 6) (w.alloc (.cells #[.int .u8 0,.int .u8 0,.int .u8 0,.int .u8 0,.int .u8 0,.int .u8 0] 5)):=fun _=>by kernel_rfl
 go_enter Tryz.func131,Tryz.ntmps131
 go_wp2
 refine wp_loop_rounds 2 ?_
 rw[rounds_succ]
 go_wp2
 go_end0
 go_wp2
 rw[rounds_succ]
 go_wp2
 rw[run_convert_bytes_arg (P:=Tryz.prog) _ 83 5 Tryz.underlying83 Tryz.underlying5 w.heap.size 0 1 6 [(n:Int) % 256] rfl ?hc 9 Tryz.underlying9]
 case hc =>
  intro i hi
  have:i=0:=by omega
  rcases this with rfl <;> simp[go_sem]
 go_wp2
 go_ret
 refine⟨?_,?_⟩
 ·rw[beS_1]
  exact congrArg (fun b=>Ending.returned (.string b)) (by simp[strOfNums,byte_0])
 ·repeat (first |exact Below.refl _ _ |refine Below.alloc ?_ (by simp <;> omega) _)
theorem beS_2 (n:Nat):beS n 2=⟨#[UInt8.ofNat (n / 256 % 256),UInt8.ofNat (n % 256)]⟩:=by
 simp[beS,be]
set_option maxHeartbeats 1000000 in
theorem num_2 (n:Nat) (w:World) (hn:n<=281474976710656) :
  Calls Tryz.prog 131 #[.int .i64 n,.int .i64 2] w fun e w'=>e=.returned (.string (beS n 2))/\Below w.heap.size w w':=by
 have hmf:∀ (fn:Fn) (first cap:Array Value) (w:World),(Instr.makeFunc fn first cap).run Tryz.prog w=.ok (.func fn first cap) w:=fun _ _ _ _=>rfl
 have hmk:∀ w,(Instr.makeSlice 83 (.int .i64 0) (.int .i64 6)).run Tryz.prog w=.ok (.slice (some ⟨w.heap.size,0,none⟩) 0 6) (w.alloc (.cells #[.int .u8 0,.int .u8 0,.int .u8 0,.int .u8 0,.int .u8 0,.int .u8 0] 5)):=fun _=>by kernel_rfl
 go_enter Tryz.func131,Tryz.ntmps131
 go_wp2
 refine wp_loop_rounds 3 ?_
 rw[rounds_succ]
 go_wp2
 go_end0
 go_wp2
 rw[rounds_succ]
 go_wp2
 go_end0
 go_wp2
 rw[rounds_succ]
 go_wp2
 rw[run_convert_bytes_arg (P:=Tryz.prog) _ 83 5 Tryz.underlying83 Tryz.underlying5 w.heap.size 0 2 6 [(n:Int) / 256 % 256,(n:Int) % 256] rfl ?hc 9 Tryz.underlying9]
 case hc =>
  intro i hi
  have:i=0∨i=1:=by omega
  rcases this with rfl |rfl <;> simp[go_sem]
 go_wp2
 go_ret
 refine⟨?_,?_⟩
 ·rw[beS_2]
  exact congrArg (fun b=>Ending.returned (.string b)) (by simp[strOfNums,byte_0,byte_1])
 ·repeat (first |exact Below.refl _ _ |refine Below.alloc ?_ (by simp <;> omega) _)
theorem beS_3 (n:Nat):beS n 3=⟨#[UInt8.ofNat (n / 65536 % 256),UInt8.ofNat (n / 256 % 256),UInt8.ofNat (n % 256)]⟩:=by
 simp[beS,be]
set_option maxHeartbeats 1000000 in
theorem num_3 (n:Nat) (w:World) (hn:n<=281474976710656) :
  Calls Tryz.prog 131 #[.int .i64 n,.int .i64 3] w fun e w'=>e=.returned (.string (beS n 3))/\Below w.heap.size w w':=by
 have hmf:∀ (fn:Fn) (first cap:Array Value) (w:World),(Instr.makeFunc fn first cap).run Tryz.prog w=.ok (.func fn first cap) w:=fun _ _ _ _=>rfl
 have hmk:∀ w,(Instr.makeSlice 83 (.int .i64 0) (.int .i64 6)).run Tryz.prog w=.ok (.slice (some ⟨w.heap.size,0,none⟩) 0 6) (w.alloc (.cells #[.int .u8 0,.int .u8 0,.int .u8 0,.int .u8 0,.int .u8 0,.int .u8 0] 5)):=fun _=>by kernel_rfl
 go_enter Tryz.func131,Tryz.ntmps131
 go_wp2
 refine wp_loop_rounds 4 ?_
 rw[rounds_succ]
 go_wp2
 go_end0
 go_wp2
 rw[rounds_succ]
 go_wp2
 go_end0
 go_wp2
 rw[rounds_succ]
 go_wp2
 go_end0
 go_wp2
 rw[rounds_succ]
 go_wp2
 rw[run_convert_bytes_arg (P:=Tryz.prog) _ 83 5 Tryz.underlying83 Tryz.underlying5 w.heap.size 0 3 6 [(n:Int) / 65536 % 256,(n:Int) / 256 % 256,(n:Int) % 256] rfl ?hc 9 Tryz.underlying9]
 case hc =>
  intro i hi
  have:i=0∨i=1∨i=2:=by omega
  rcases this with rfl |rfl |rfl <;> simp[go_sem]
 go_wp2
 go_ret
 refine⟨?_,?_⟩
 ·rw[beS_3]
  exact congrArg (fun b=>Ending.returned (.string b)) (by simp[strOfNums,byte_0,byte_1,byte_2])
 ·repeat (first |exact Below.refl _ _ |refine Below.alloc ?_ (by simp <;> omega) _)
theorem beS_4 (n:Nat):beS n 4=⟨#[UInt8.ofNat (n / 16777216 % 256),UInt8.ofNat (n / 65536 % 256),UInt8.ofNat (n / 256 % 256),UInt8.ofNat (n % 256)]⟩:=by
 simp[beS,be]
set_option maxHeartbeats 1000000 in
theorem num_4 (n:Nat) (w:World) (hn:n<=281474976710656) :
  Calls Tryz.prog 131 #[.int .i64 n,.int .i64 4] w fun e w'=>e=.returned (.string (beS n 4))/\Below w.heap.size w w':=by
 have hmf:∀ (fn:Fn) (first cap:Array Value) (w:World),(Instr.makeFunc fn first cap).run Tryz.prog w=.ok (.func fn first cap) w:=fun _ _ _ _=>rfl
 have hmk:∀ w,(Instr.makeSlice 83 (.int .i64 0) (.int .i64 6)).run Tryz.prog w=.ok (.slice (some ⟨w.heap.size,0,none⟩) 0 6) (w.alloc (.cells #[.int .u8 0,.int .u8 0,.int .u8 0,.int .u8 0,.int .u8 0,.int .u8 0] 5)):=fun _=>by kernel_rfl
 go_enter Tryz.func131,Tryz.ntmps131
 go_wp2
 refine wp_loop_rounds 5 ?_
 rw[rounds_succ]
 go_wp2
 go_end0
 go_wp2
 rw[rounds_succ]
 go_wp2
 go_end0
 go_wp2
 rw[rounds_succ]
 go_wp2
 go_end0
 go_wp2
 rw[rounds_succ]
 go_wp2
 go_end0
 go_wp2
 rw[rounds_succ]
 go_wp2
 rw[run_convert_bytes_arg (P:=Tryz.prog) _ 83 5 Tryz.underlying83 Tryz.underlying5 w.heap.size 0 4 6 [(n:Int) / 16777216 % 256,(n:Int) / 65536 % 256,(n:Int) / 256 % 256,(n:Int) % 256] rfl ?hc 9 Tryz.underlying9]
 case hc =>
  intro i hi
  have:i=0∨i=1∨i=2∨i=3:=by omega
  rcases this with rfl |rfl |rfl |rfl <;> simp[go_sem]
 go_wp2
 go_ret
 refine⟨?_,?_⟩
 ·rw[beS_4]
  exact congrArg (fun b=>Ending.returned (.string b)) (by simp[strOfNums,byte_0,byte_1,byte_2,byte_3])
 ·repeat (first |exact Below.refl _ _ |refine Below.alloc ?_ (by simp <;> omega) _)
theorem beS_5 (n:Nat):beS n 5=⟨#[UInt8.ofNat (n / 4294967296 % 256),UInt8.ofNat (n / 16777216 % 256),UInt8.ofNat (n / 65536 % 256),UInt8.ofNat (n / 256 % 256),UInt8.ofNat (n % 256)]⟩:=by
 simp[beS,be]
set_option maxHeartbeats 1000000 in
theorem num_5 (n:Nat) (w:World) (hn:n<=281474976710656) :
  Calls Tryz.prog 131 #[.int .i64 n,.int .i64 5] w fun e w'=>e=.returned (.string (beS n 5))/\Below w.heap.size w w':=by
 have hmf:∀ (fn:Fn) (first cap:Array Value) (w:World),(Instr.makeFunc fn first cap).run Tryz.prog w=.ok (.func fn first cap) w:=fun _ _ _ _=>rfl
 have hmk:∀ w,(Instr.makeSlice 83 (.int .i64 0) (.int .i64 6)).run Tryz.prog w=.ok (.slice (some ⟨w.heap.size,0,none⟩) 0 6) (w.alloc (.cells #[.int .u8 0,.int .u8 0,.int .u8 0,.int .u8 0,.int .u8 0,.int .u8 0] 5)):=fun _=>by kernel_rfl
 go_enter Tryz.func131,Tryz.ntmps131
 go_wp2
 refine wp_loop_rounds 6 ?_
 rw[rounds_succ]
 go_wp2
 go_end0
 go_wp2
 rw[rounds_succ]
 go_wp2
 go_end0
 go_wp2
 rw[rounds_succ]
 go_wp2
 go_end0
 go_wp2
 rw[rounds_succ]
 go_wp2
 go_end0
 go_wp2
 rw[rounds_succ]
 go_wp2
 go_end0
 go_wp2
 rw[rounds_succ]
 go_wp2
 rw[run_convert_bytes_arg (P:=Tryz.prog) _ 83 5 Tryz.underlying83 Tryz.underlying5 w.heap.size 0 5 6 [(n:Int) / 4294967296 % 256,(n:Int) / 16777216 % 256,(n:Int) / 65536 % 256,(n:Int) / 256 % 256,(n:Int) % 256] rfl ?hc 9 Tryz.underlying9]
 case hc =>
  intro i hi
  have:i=0∨i=1∨i=2∨i=3∨i=4:=by omega
  rcases this with rfl |rfl |rfl |rfl |rfl <;> simp[go_sem]
 go_wp2
 go_ret
 refine⟨?_,?_⟩
 ·rw[beS_5]
  exact congrArg (fun b=>Ending.returned (.string b)) (by simp[strOfNums,byte_0,byte_1,byte_2,byte_3,byte_4])
 ·repeat (first |exact Below.refl _ _ |refine Below.alloc ?_ (by simp <;> omega) _)
theorem beS_6 (n:Nat):beS n 6=⟨#[UInt8.ofNat (n / 1099511627776 % 256),UInt8.ofNat (n / 4294967296 % 256),UInt8.ofNat (n / 16777216 % 256),UInt8.ofNat (n / 65536 % 256),UInt8.ofNat (n / 256 % 256),UInt8.ofNat (n % 256)]⟩:=by
 simp[beS,be]
set_option maxHeartbeats 1000000 in
theorem num_6 (n:Nat) (w:World) (hn:n<=281474976710656) :
  Calls Tryz.prog 131 #[.int .i64 n,.int .i64 6] w fun e w'=>e=.returned (.string (beS n 6))/\Below w.heap.size w w':=by
 have hmf:∀ (fn:Fn) (first cap:Array Value) (w:World),(Instr.makeFunc fn first cap).run Tryz.prog w=.ok (.func fn first cap) w:=fun _ _ _ _=>rfl
 have hmk:∀ w,(Instr.makeSlice 83 (.int .i64 0) (.int .i64 6)).run Tryz.prog w=.ok (.slice (some ⟨w.heap.size,0,none⟩) 0 6) (w.alloc (.cells #[.int .u8 0,.int .u8 0,.int .u8 0,.int .u8 0,.int .u8 0,.int .u8 0] 5)):=fun _=>by kernel_rfl
 go_enter Tryz.func131,Tryz.ntmps131
 go_wp2
 refine wp_loop_rounds 7 ?_
 rw[rounds_succ]
 go_wp2
 go_end0
 go_wp2
 rw[rounds_succ]
 go_wp2
 go_end0
 go_wp2
 rw[rounds_succ]
 go_wp2
 go_end0
 go_wp2
 rw[rounds_succ]
 go_wp2
 go_end0
 go_wp2
 rw[rounds_succ]
 go_wp2
 go_end0
 go_wp2
 rw[rounds_succ]
 go_wp2
 go_end0
 go_wp2
 rw[rounds_succ]
 go_wp2
 rw[run_convert_bytes_arg (P:=Tryz.prog) _ 83 5 Tryz.underlying83 Tryz.underlying5 w.heap.size 0 6 6 [(n:Int) / 1099511627776 % 256,(n:Int) / 4294967296 % 256,(n:Int) / 16777216 % 256,(n:Int) / 65536 % 256,(n:Int) / 256 % 256,(n:Int) % 256] rfl ?hc 9 Tryz.underlying9]
 case hc =>
  intro i hi
  have:i=0∨i=1∨i=2∨i=3∨i=4∨i=5:=by omega
  rcases this with rfl |rfl |rfl |rfl |rfl |rfl <;> simp[go_sem]
 go_wp2
 go_ret
 refine⟨?_,?_⟩
 ·rw[beS_6]
  exact congrArg (fun b=>Ending.returned (.string b)) (by simp[strOfNums,byte_0,byte_1,byte_2,byte_3,byte_4,byte_5])
 ·repeat (first |exact Below.refl _ _ |refine Below.alloc ?_ (by simp <;> omega) _)
end Go.Proofs.YtdchjncnjgelhaaGreat.Pk
