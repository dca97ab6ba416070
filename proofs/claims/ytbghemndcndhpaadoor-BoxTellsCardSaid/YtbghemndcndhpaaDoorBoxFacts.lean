/- What becomes an interface value, and what each assertion says of one, of each dynamic type that a box has. No condition. -/
import Derived.Test.YtbghemndcndhpaaDoorBoxMem
import Derived.WalkKit
import Derived.WalkSmall
import Derived.OneCell
import Derived.KernelRfl
import Derived.Outline
namespace Go.Proofs.YtbghemndcndhpaaDoor
open Go.RowKit

theorem mkI_b (x : Value) (w : World) : (Instr.makeInterface 4 x).run Tryd.prog w = .ok (.iface 4 x) w := run_makeInterface w 4 x (by kernel_rfl)
theorem as_b_nil (w : World) : (Instr.typeAssert .nilIface 20 4 true).run Tryd.prog w = .ok (.tuple #[.bool false, .bool false]) w := by kernel_rfl
theorem as_b_b (v : Value) (w : World) : (Instr.typeAssert (.iface 4 v) 20 4 true).run Tryd.prog w = .ok (.tuple #[v, .bool true]) w := by kernel_rfl
theorem as1_b (v : Value) (w : World) : (Instr.typeAssert (.iface 4 v) 20 4 false).run Tryd.prog w = .ok v w := by kernel_rfl
theorem as_b_n (v : Value) (w : World) : (Instr.typeAssert (.iface 22 v) 20 4 true).run Tryd.prog w = .ok (.tuple #[.bool false, .bool false]) w := by kernel_rfl
theorem as_b_s (v : Value) (w : World) : (Instr.typeAssert (.iface 9 v) 20 4 true).run Tryd.prog w = .ok (.tuple #[.bool false, .bool false]) w := by kernel_rfl
theorem as_b_r (v : Value) (w : World) : (Instr.typeAssert (.iface 58 v) 20 4 true).run Tryd.prog w = .ok (.tuple #[.bool false, .bool false]) w := by kernel_rfl
theorem mkI_n (x : Value) (w : World) : (Instr.makeInterface 22 x).run Tryd.prog w = .ok (.iface 22 x) w := run_makeInterface w 22 x (by kernel_rfl)
theorem as_n_nil (w : World) : (Instr.typeAssert .nilIface 20 22 true).run Tryd.prog w = .ok (.tuple #[.int .u64 0, .bool false]) w := by kernel_rfl
theorem as_n_b (v : Value) (w : World) : (Instr.typeAssert (.iface 4 v) 20 22 true).run Tryd.prog w = .ok (.tuple #[.int .u64 0, .bool false]) w := by kernel_rfl
theorem as_n_n (v : Value) (w : World) : (Instr.typeAssert (.iface 22 v) 20 22 true).run Tryd.prog w = .ok (.tuple #[v, .bool true]) w := by kernel_rfl
theorem as1_n (v : Value) (w : World) : (Instr.typeAssert (.iface 22 v) 20 22 false).run Tryd.prog w = .ok v w := by kernel_rfl
theorem as_n_s (v : Value) (w : World) : (Instr.typeAssert (.iface 9 v) 20 22 true).run Tryd.prog w = .ok (.tuple #[.int .u64 0, .bool false]) w := by kernel_rfl
theorem as_n_r (v : Value) (w : World) : (Instr.typeAssert (.iface 58 v) 20 22 true).run Tryd.prog w = .ok (.tuple #[.int .u64 0, .bool false]) w := by kernel_rfl
theorem mkI_s (x : Value) (w : World) : (Instr.makeInterface 9 x).run Tryd.prog w = .ok (.iface 9 x) w := run_makeInterface w 9 x (by kernel_rfl)
theorem as_s_nil (w : World) : (Instr.typeAssert .nilIface 20 9 true).run Tryd.prog w = .ok (.tuple #[.string ByteArray.empty, .bool false]) w := by kernel_rfl
theorem as_s_b (v : Value) (w : World) : (Instr.typeAssert (.iface 4 v) 20 9 true).run Tryd.prog w = .ok (.tuple #[.string ByteArray.empty, .bool false]) w := by kernel_rfl
theorem as_s_n (v : Value) (w : World) : (Instr.typeAssert (.iface 22 v) 20 9 true).run Tryd.prog w = .ok (.tuple #[.string ByteArray.empty, .bool false]) w := by kernel_rfl
theorem as_s_s (v : Value) (w : World) : (Instr.typeAssert (.iface 9 v) 20 9 true).run Tryd.prog w = .ok (.tuple #[v, .bool true]) w := by kernel_rfl
theorem as1_s (v : Value) (w : World) : (Instr.typeAssert (.iface 9 v) 20 9 false).run Tryd.prog w = .ok v w := by kernel_rfl
theorem as_s_r (v : Value) (w : World) : (Instr.typeAssert (.iface 58 v) 20 9 true).run Tryd.prog w = .ok (.tuple #[.string ByteArray.empty, .bool false]) w := by kernel_rfl
theorem mkI_r (x : Value) (w : World) : (Instr.makeInterface 58 x).run Tryd.prog w = .ok (.iface 58 x) w := run_makeInterface w 58 x (by kernel_rfl)
theorem as_r_nil (w : World) : (Instr.typeAssert .nilIface 20 58 true).run Tryd.prog w = .ok (.tuple #[.agg #[.slice none 0 0, .int .i64 0], .bool false]) w := by kernel_rfl
theorem as_r_b (v : Value) (w : World) : (Instr.typeAssert (.iface 4 v) 20 58 true).run Tryd.prog w = .ok (.tuple #[.agg #[.slice none 0 0, .int .i64 0], .bool false]) w := by kernel_rfl
theorem as_r_n (v : Value) (w : World) : (Instr.typeAssert (.iface 22 v) 20 58 true).run Tryd.prog w = .ok (.tuple #[.agg #[.slice none 0 0, .int .i64 0], .bool false]) w := by kernel_rfl
theorem as_r_s (v : Value) (w : World) : (Instr.typeAssert (.iface 9 v) 20 58 true).run Tryd.prog w = .ok (.tuple #[.agg #[.slice none 0 0, .int .i64 0], .bool false]) w := by kernel_rfl
theorem as_r_r (v : Value) (w : World) : (Instr.typeAssert (.iface 58 v) 20 58 true).run Tryd.prog w = .ok (.tuple #[v, .bool true]) w := by kernel_rfl
theorem as1_r (v : Value) (w : World) : (Instr.typeAssert (.iface 58 v) 20 58 false).run Tryd.prog w = .ok v w := by kernel_rfl
attribute [go_sem] mkI_b as_b_nil as1_b as_b_b as_b_n as_b_s as_b_r mkI_n as_n_nil as_n_b as1_n as_n_n as_n_s as_n_r mkI_s as_s_nil as_s_b as_s_n as1_s as_s_s as_s_r mkI_r as_r_nil as_r_b as_r_n as_r_s as1_r as_r_r
end Go.Proofs.YtbghemndcndhpaaDoor
