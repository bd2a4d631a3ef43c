/- Values: the contracts of the program's kindOf and key; what its switches on kinds find. (Printed by gen/kind.py.) -/
import Derived.Test.YtdogddliifbjnaaGreatMg57
import Derived.Test.YtdogddliifbjnaaGreatMg38
namespace Go.Proofs.YtdogddliifbjnaaGreat.Va
open Go.RowKit Cm
set_option linter.unusedVariables false
set_option linter.unusedSimpArgs false

/-- What kindOf answers. -/
def kdV (k n : Int) (s : ByteArray) (tb : Option Addr) (tl tc : Nat) (io : Option Addr) (il ic : Nat) : Value :=
  if k = 1 then .iface 165 (.int .i64 n)
  else if k = 2 then .iface 166 (.int .i64 n)
  else if k = 3 then .iface 168 (.int .u64 (IntKind.u64.wrap n))
  else if k = 6 then .iface 169 (.int .i64 n)
  else if k = 4 then .iface 170 (.string s)
  else if k = 5 then .iface 171 (.string s)
  else if k = 7 then .iface 172 (.slice io il ic)
  else if k = 8 then .iface 173 (.slice io il ic)
  else if k = 9 then .iface 177 (.agg #[.slice tb tl tc, .slice io il ic])
  else if k = 10 then .iface 178 (.agg #[.slice tb tl tc, .slice io il ic])
  else .nilIface
theorem as1_1 (v : Value) (W : World) : (Instr.typeAssert (.iface 165 v) 140 165 true).run Tryz.prog W = .ok (.tuple #[v, .bool true]) W := by kernel_rfl
theorem as1_2 (v : Value) (W : World) : (Instr.typeAssert (.iface 165 v) 140 166 true).run Tryz.prog W = .ok (.tuple #[.int .i64 0, .bool false]) W := by kernel_rfl
theorem as1_3 (v : Value) (W : World) : (Instr.typeAssert (.iface 165 v) 140 168 true).run Tryz.prog W = .ok (.tuple #[.int .u64 0, .bool false]) W := by kernel_rfl
theorem as1_6 (v : Value) (W : World) : (Instr.typeAssert (.iface 165 v) 140 169 true).run Tryz.prog W = .ok (.tuple #[.int .i64 0, .bool false]) W := by kernel_rfl
theorem as1_4 (v : Value) (W : World) : (Instr.typeAssert (.iface 165 v) 140 170 true).run Tryz.prog W = .ok (.tuple #[.string ⟨#[]⟩, .bool false]) W := by kernel_rfl
theorem as1_5 (v : Value) (W : World) : (Instr.typeAssert (.iface 165 v) 140 171 true).run Tryz.prog W = .ok (.tuple #[.string ⟨#[]⟩, .bool false]) W := by kernel_rfl
theorem as1_7 (v : Value) (W : World) : (Instr.typeAssert (.iface 165 v) 140 172 true).run Tryz.prog W = .ok (.tuple #[.slice none 0 0, .bool false]) W := by kernel_rfl
theorem as1_8 (v : Value) (W : World) : (Instr.typeAssert (.iface 165 v) 140 173 true).run Tryz.prog W = .ok (.tuple #[.slice none 0 0, .bool false]) W := by kernel_rfl
theorem as1_9 (v : Value) (W : World) : (Instr.typeAssert (.iface 165 v) 140 177 true).run Tryz.prog W = .ok (.tuple #[.agg #[.slice none 0 0, .slice none 0 0], .bool false]) W := by kernel_rfl
theorem as1_10 (v : Value) (W : World) : (Instr.typeAssert (.iface 165 v) 140 178 true).run Tryz.prog W = .ok (.tuple #[.agg #[.slice none 0 0, .slice none 0 0], .bool false]) W := by kernel_rfl
theorem as2_1 (v : Value) (W : World) : (Instr.typeAssert (.iface 166 v) 140 165 true).run Tryz.prog W = .ok (.tuple #[.int .i64 0, .bool false]) W := by kernel_rfl
theorem as2_2 (v : Value) (W : World) : (Instr.typeAssert (.iface 166 v) 140 166 true).run Tryz.prog W = .ok (.tuple #[v, .bool true]) W := by kernel_rfl
theorem as2_3 (v : Value) (W : World) : (Instr.typeAssert (.iface 166 v) 140 168 true).run Tryz.prog W = .ok (.tuple #[.int .u64 0, .bool false]) W := by kernel_rfl
theorem as2_6 (v : Value) (W : World) : (Instr.typeAssert (.iface 166 v) 140 169 true).run Tryz.prog W = .ok (.tuple #[.int .i64 0, .bool false]) W := by kernel_rfl
theorem as2_4 (v : Value) (W : World) : (Instr.typeAssert (.iface 166 v) 140 170 true).run Tryz.prog W = .ok (.tuple #[.string ⟨#[]⟩, .bool false]) W := by kernel_rfl
theorem as2_5 (v : Value) (W : World) : (Instr.typeAssert (.iface 166 v) 140 171 true).run Tryz.prog W = .ok (.tuple #[.string ⟨#[]⟩, .bool false]) W := by kernel_rfl
theorem as2_7 (v : Value) (W : World) : (Instr.typeAssert (.iface 166 v) 140 172 true).run Tryz.prog W = .ok (.tuple #[.slice none 0 0, .bool false]) W := by kernel_rfl
theorem as2_8 (v : Value) (W : World) : (Instr.typeAssert (.iface 166 v) 140 173 true).run Tryz.prog W = .ok (.tuple #[.slice none 0 0, .bool false]) W := by kernel_rfl
theorem as2_9 (v : Value) (W : World) : (Instr.typeAssert (.iface 166 v) 140 177 true).run Tryz.prog W = .ok (.tuple #[.agg #[.slice none 0 0, .slice none 0 0], .bool false]) W := by kernel_rfl
theorem as2_10 (v : Value) (W : World) : (Instr.typeAssert (.iface 166 v) 140 178 true).run Tryz.prog W = .ok (.tuple #[.agg #[.slice none 0 0, .slice none 0 0], .bool false]) W := by kernel_rfl
theorem as3_1 (v : Value) (W : World) : (Instr.typeAssert (.iface 168 v) 140 165 true).run Tryz.prog W = .ok (.tuple #[.int .i64 0, .bool false]) W := by kernel_rfl
theorem as3_2 (v : Value) (W : World) : (Instr.typeAssert (.iface 168 v) 140 166 true).run Tryz.prog W = .ok (.tuple #[.int .i64 0, .bool false]) W := by kernel_rfl
theorem as3_3 (v : Value) (W : World) : (Instr.typeAssert (.iface 168 v) 140 168 true).run Tryz.prog W = .ok (.tuple #[v, .bool true]) W := by kernel_rfl
theorem as3_6 (v : Value) (W : World) : (Instr.typeAssert (.iface 168 v) 140 169 true).run Tryz.prog W = .ok (.tuple #[.int .i64 0, .bool false]) W := by kernel_rfl
theorem as3_4 (v : Value) (W : World) : (Instr.typeAssert (.iface 168 v) 140 170 true).run Tryz.prog W = .ok (.tuple #[.string ⟨#[]⟩, .bool false]) W := by kernel_rfl
theorem as3_5 (v : Value) (W : World) : (Instr.typeAssert (.iface 168 v) 140 171 true).run Tryz.prog W = .ok (.tuple #[.string ⟨#[]⟩, .bool false]) W := by kernel_rfl
theorem as3_7 (v : Value) (W : World) : (Instr.typeAssert (.iface 168 v) 140 172 true).run Tryz.prog W = .ok (.tuple #[.slice none 0 0, .bool false]) W := by kernel_rfl
theorem as3_8 (v : Value) (W : World) : (Instr.typeAssert (.iface 168 v) 140 173 true).run Tryz.prog W = .ok (.tuple #[.slice none 0 0, .bool false]) W := by kernel_rfl
theorem as3_9 (v : Value) (W : World) : (Instr.typeAssert (.iface 168 v) 140 177 true).run Tryz.prog W = .ok (.tuple #[.agg #[.slice none 0 0, .slice none 0 0], .bool false]) W := by kernel_rfl
theorem as3_10 (v : Value) (W : World) : (Instr.typeAssert (.iface 168 v) 140 178 true).run Tryz.prog W = .ok (.tuple #[.agg #[.slice none 0 0, .slice none 0 0], .bool false]) W := by kernel_rfl
theorem as6_1 (v : Value) (W : World) : (Instr.typeAssert (.iface 169 v) 140 165 true).run Tryz.prog W = .ok (.tuple #[.int .i64 0, .bool false]) W := by kernel_rfl
theorem as6_2 (v : Value) (W : World) : (Instr.typeAssert (.iface 169 v) 140 166 true).run Tryz.prog W = .ok (.tuple #[.int .i64 0, .bool false]) W := by kernel_rfl
theorem as6_3 (v : Value) (W : World) : (Instr.typeAssert (.iface 169 v) 140 168 true).run Tryz.prog W = .ok (.tuple #[.int .u64 0, .bool false]) W := by kernel_rfl
theorem as6_6 (v : Value) (W : World) : (Instr.typeAssert (.iface 169 v) 140 169 true).run Tryz.prog W = .ok (.tuple #[v, .bool true]) W := by kernel_rfl
theorem as6_4 (v : Value) (W : World) : (Instr.typeAssert (.iface 169 v) 140 170 true).run Tryz.prog W = .ok (.tuple #[.string ⟨#[]⟩, .bool false]) W := by kernel_rfl
theorem as6_5 (v : Value) (W : World) : (Instr.typeAssert (.iface 169 v) 140 171 true).run Tryz.prog W = .ok (.tuple #[.string ⟨#[]⟩, .bool false]) W := by kernel_rfl
theorem as6_7 (v : Value) (W : World) : (Instr.typeAssert (.iface 169 v) 140 172 true).run Tryz.prog W = .ok (.tuple #[.slice none 0 0, .bool false]) W := by kernel_rfl
theorem as6_8 (v : Value) (W : World) : (Instr.typeAssert (.iface 169 v) 140 173 true).run Tryz.prog W = .ok (.tuple #[.slice none 0 0, .bool false]) W := by kernel_rfl
theorem as6_9 (v : Value) (W : World) : (Instr.typeAssert (.iface 169 v) 140 177 true).run Tryz.prog W = .ok (.tuple #[.agg #[.slice none 0 0, .slice none 0 0], .bool false]) W := by kernel_rfl
theorem as6_10 (v : Value) (W : World) : (Instr.typeAssert (.iface 169 v) 140 178 true).run Tryz.prog W = .ok (.tuple #[.agg #[.slice none 0 0, .slice none 0 0], .bool false]) W := by kernel_rfl
theorem as4_1 (v : Value) (W : World) : (Instr.typeAssert (.iface 170 v) 140 165 true).run Tryz.prog W = .ok (.tuple #[.int .i64 0, .bool false]) W := by kernel_rfl
theorem as4_2 (v : Value) (W : World) : (Instr.typeAssert (.iface 170 v) 140 166 true).run Tryz.prog W = .ok (.tuple #[.int .i64 0, .bool false]) W := by kernel_rfl
theorem as4_3 (v : Value) (W : World) : (Instr.typeAssert (.iface 170 v) 140 168 true).run Tryz.prog W = .ok (.tuple #[.int .u64 0, .bool false]) W := by kernel_rfl
theorem as4_6 (v : Value) (W : World) : (Instr.typeAssert (.iface 170 v) 140 169 true).run Tryz.prog W = .ok (.tuple #[.int .i64 0, .bool false]) W := by kernel_rfl
theorem as4_4 (v : Value) (W : World) : (Instr.typeAssert (.iface 170 v) 140 170 true).run Tryz.prog W = .ok (.tuple #[v, .bool true]) W := by kernel_rfl
theorem as4_5 (v : Value) (W : World) : (Instr.typeAssert (.iface 170 v) 140 171 true).run Tryz.prog W = .ok (.tuple #[.string ⟨#[]⟩, .bool false]) W := by kernel_rfl
theorem as4_7 (v : Value) (W : World) : (Instr.typeAssert (.iface 170 v) 140 172 true).run Tryz.prog W = .ok (.tuple #[.slice none 0 0, .bool false]) W := by kernel_rfl
theorem as4_8 (v : Value) (W : World) : (Instr.typeAssert (.iface 170 v) 140 173 true).run Tryz.prog W = .ok (.tuple #[.slice none 0 0, .bool false]) W := by kernel_rfl
theorem as4_9 (v : Value) (W : World) : (Instr.typeAssert (.iface 170 v) 140 177 true).run Tryz.prog W = .ok (.tuple #[.agg #[.slice none 0 0, .slice none 0 0], .bool false]) W := by kernel_rfl
theorem as4_10 (v : Value) (W : World) : (Instr.typeAssert (.iface 170 v) 140 178 true).run Tryz.prog W = .ok (.tuple #[.agg #[.slice none 0 0, .slice none 0 0], .bool false]) W := by kernel_rfl
theorem as5_1 (v : Value) (W : World) : (Instr.typeAssert (.iface 171 v) 140 165 true).run Tryz.prog W = .ok (.tuple #[.int .i64 0, .bool false]) W := by kernel_rfl
theorem as5_2 (v : Value) (W : World) : (Instr.typeAssert (.iface 171 v) 140 166 true).run Tryz.prog W = .ok (.tuple #[.int .i64 0, .bool false]) W := by kernel_rfl
theorem as5_3 (v : Value) (W : World) : (Instr.typeAssert (.iface 171 v) 140 168 true).run Tryz.prog W = .ok (.tuple #[.int .u64 0, .bool false]) W := by kernel_rfl
theorem as5_6 (v : Value) (W : World) : (Instr.typeAssert (.iface 171 v) 140 169 true).run Tryz.prog W = .ok (.tuple #[.int .i64 0, .bool false]) W := by kernel_rfl
theorem as5_4 (v : Value) (W : World) : (Instr.typeAssert (.iface 171 v) 140 170 true).run Tryz.prog W = .ok (.tuple #[.string ⟨#[]⟩, .bool false]) W := by kernel_rfl
theorem as5_5 (v : Value) (W : World) : (Instr.typeAssert (.iface 171 v) 140 171 true).run Tryz.prog W = .ok (.tuple #[v, .bool true]) W := by kernel_rfl
theorem as5_7 (v : Value) (W : World) : (Instr.typeAssert (.iface 171 v) 140 172 true).run Tryz.prog W = .ok (.tuple #[.slice none 0 0, .bool false]) W := by kernel_rfl
theorem as5_8 (v : Value) (W : World) : (Instr.typeAssert (.iface 171 v) 140 173 true).run Tryz.prog W = .ok (.tuple #[.slice none 0 0, .bool false]) W := by kernel_rfl
theorem as5_9 (v : Value) (W : World) : (Instr.typeAssert (.iface 171 v) 140 177 true).run Tryz.prog W = .ok (.tuple #[.agg #[.slice none 0 0, .slice none 0 0], .bool false]) W := by kernel_rfl
theorem as5_10 (v : Value) (W : World) : (Instr.typeAssert (.iface 171 v) 140 178 true).run Tryz.prog W = .ok (.tuple #[.agg #[.slice none 0 0, .slice none 0 0], .bool false]) W := by kernel_rfl
theorem as7_1 (v : Value) (W : World) : (Instr.typeAssert (.iface 172 v) 140 165 true).run Tryz.prog W = .ok (.tuple #[.int .i64 0, .bool false]) W := by kernel_rfl
theorem as7_2 (v : Value) (W : World) : (Instr.typeAssert (.iface 172 v) 140 166 true).run Tryz.prog W = .ok (.tuple #[.int .i64 0, .bool false]) W := by kernel_rfl
theorem as7_3 (v : Value) (W : World) : (Instr.typeAssert (.iface 172 v) 140 168 true).run Tryz.prog W = .ok (.tuple #[.int .u64 0, .bool false]) W := by kernel_rfl
theorem as7_6 (v : Value) (W : World) : (Instr.typeAssert (.iface 172 v) 140 169 true).run Tryz.prog W = .ok (.tuple #[.int .i64 0, .bool false]) W := by kernel_rfl
theorem as7_4 (v : Value) (W : World) : (Instr.typeAssert (.iface 172 v) 140 170 true).run Tryz.prog W = .ok (.tuple #[.string ⟨#[]⟩, .bool false]) W := by kernel_rfl
theorem as7_5 (v : Value) (W : World) : (Instr.typeAssert (.iface 172 v) 140 171 true).run Tryz.prog W = .ok (.tuple #[.string ⟨#[]⟩, .bool false]) W := by kernel_rfl
theorem as7_7 (v : Value) (W : World) : (Instr.typeAssert (.iface 172 v) 140 172 true).run Tryz.prog W = .ok (.tuple #[v, .bool true]) W := by kernel_rfl
theorem as7_8 (v : Value) (W : World) : (Instr.typeAssert (.iface 172 v) 140 173 true).run Tryz.prog W = .ok (.tuple #[.slice none 0 0, .bool false]) W := by kernel_rfl
theorem as7_9 (v : Value) (W : World) : (Instr.typeAssert (.iface 172 v) 140 177 true).run Tryz.prog W = .ok (.tuple #[.agg #[.slice none 0 0, .slice none 0 0], .bool false]) W := by kernel_rfl
theorem as7_10 (v : Value) (W : World) : (Instr.typeAssert (.iface 172 v) 140 178 true).run Tryz.prog W = .ok (.tuple #[.agg #[.slice none 0 0, .slice none 0 0], .bool false]) W := by kernel_rfl
theorem as8_1 (v : Value) (W : World) : (Instr.typeAssert (.iface 173 v) 140 165 true).run Tryz.prog W = .ok (.tuple #[.int .i64 0, .bool false]) W := by kernel_rfl
theorem as8_2 (v : Value) (W : World) : (Instr.typeAssert (.iface 173 v) 140 166 true).run Tryz.prog W = .ok (.tuple #[.int .i64 0, .bool false]) W := by kernel_rfl
theorem as8_3 (v : Value) (W : World) : (Instr.typeAssert (.iface 173 v) 140 168 true).run Tryz.prog W = .ok (.tuple #[.int .u64 0, .bool false]) W := by kernel_rfl
theorem as8_6 (v : Value) (W : World) : (Instr.typeAssert (.iface 173 v) 140 169 true).run Tryz.prog W = .ok (.tuple #[.int .i64 0, .bool false]) W := by kernel_rfl
theorem as8_4 (v : Value) (W : World) : (Instr.typeAssert (.iface 173 v) 140 170 true).run Tryz.prog W = .ok (.tuple #[.string ⟨#[]⟩, .bool false]) W := by kernel_rfl
theorem as8_5 (v : Value) (W : World) : (Instr.typeAssert (.iface 173 v) 140 171 true).run Tryz.prog W = .ok (.tuple #[.string ⟨#[]⟩, .bool false]) W := by kernel_rfl
theorem as8_7 (v : Value) (W : World) : (Instr.typeAssert (.iface 173 v) 140 172 true).run Tryz.prog W = .ok (.tuple #[.slice none 0 0, .bool false]) W := by kernel_rfl
theorem as8_8 (v : Value) (W : World) : (Instr.typeAssert (.iface 173 v) 140 173 true).run Tryz.prog W = .ok (.tuple #[v, .bool true]) W := by kernel_rfl
theorem as8_9 (v : Value) (W : World) : (Instr.typeAssert (.iface 173 v) 140 177 true).run Tryz.prog W = .ok (.tuple #[.agg #[.slice none 0 0, .slice none 0 0], .bool false]) W := by kernel_rfl
theorem as8_10 (v : Value) (W : World) : (Instr.typeAssert (.iface 173 v) 140 178 true).run Tryz.prog W = .ok (.tuple #[.agg #[.slice none 0 0, .slice none 0 0], .bool false]) W := by kernel_rfl
theorem as9_1 (v : Value) (W : World) : (Instr.typeAssert (.iface 177 v) 140 165 true).run Tryz.prog W = .ok (.tuple #[.int .i64 0, .bool false]) W := by kernel_rfl
theorem as9_2 (v : Value) (W : World) : (Instr.typeAssert (.iface 177 v) 140 166 true).run Tryz.prog W = .ok (.tuple #[.int .i64 0, .bool false]) W := by kernel_rfl
theorem as9_3 (v : Value) (W : World) : (Instr.typeAssert (.iface 177 v) 140 168 true).run Tryz.prog W = .ok (.tuple #[.int .u64 0, .bool false]) W := by kernel_rfl
theorem as9_6 (v : Value) (W : World) : (Instr.typeAssert (.iface 177 v) 140 169 true).run Tryz.prog W = .ok (.tuple #[.int .i64 0, .bool false]) W := by kernel_rfl
theorem as9_4 (v : Value) (W : World) : (Instr.typeAssert (.iface 177 v) 140 170 true).run Tryz.prog W = .ok (.tuple #[.string ⟨#[]⟩, .bool false]) W := by kernel_rfl
theorem as9_5 (v : Value) (W : World) : (Instr.typeAssert (.iface 177 v) 140 171 true).run Tryz.prog W = .ok (.tuple #[.string ⟨#[]⟩, .bool false]) W := by kernel_rfl
theorem as9_7 (v : Value) (W : World) : (Instr.typeAssert (.iface 177 v) 140 172 true).run Tryz.prog W = .ok (.tuple #[.slice none 0 0, .bool false]) W := by kernel_rfl
theorem as9_8 (v : Value) (W : World) : (Instr.typeAssert (.iface 177 v) 140 173 true).run Tryz.prog W = .ok (.tuple #[.slice none 0 0, .bool false]) W := by kernel_rfl
theorem as9_9 (v : Value) (W : World) : (Instr.typeAssert (.iface 177 v) 140 177 true).run Tryz.prog W = .ok (.tuple #[v, .bool true]) W := by kernel_rfl
theorem as9_10 (v : Value) (W : World) : (Instr.typeAssert (.iface 177 v) 140 178 true).run Tryz.prog W = .ok (.tuple #[.agg #[.slice none 0 0, .slice none 0 0], .bool false]) W := by kernel_rfl
theorem as10_1 (v : Value) (W : World) : (Instr.typeAssert (.iface 178 v) 140 165 true).run Tryz.prog W = .ok (.tuple #[.int .i64 0, .bool false]) W := by kernel_rfl
theorem as10_2 (v : Value) (W : World) : (Instr.typeAssert (.iface 178 v) 140 166 true).run Tryz.prog W = .ok (.tuple #[.int .i64 0, .bool false]) W := by kernel_rfl
theorem as10_3 (v : Value) (W : World) : (Instr.typeAssert (.iface 178 v) 140 168 true).run Tryz.prog W = .ok (.tuple #[.int .u64 0, .bool false]) W := by kernel_rfl
theorem as10_6 (v : Value) (W : World) : (Instr.typeAssert (.iface 178 v) 140 169 true).run Tryz.prog W = .ok (.tuple #[.int .i64 0, .bool false]) W := by kernel_rfl
theorem as10_4 (v : Value) (W : World) : (Instr.typeAssert (.iface 178 v) 140 170 true).run Tryz.prog W = .ok (.tuple #[.string ⟨#[]⟩, .bool false]) W := by kernel_rfl
theorem as10_5 (v : Value) (W : World) : (Instr.typeAssert (.iface 178 v) 140 171 true).run Tryz.prog W = .ok (.tuple #[.string ⟨#[]⟩, .bool false]) W := by kernel_rfl
theorem as10_7 (v : Value) (W : World) : (Instr.typeAssert (.iface 178 v) 140 172 true).run Tryz.prog W = .ok (.tuple #[.slice none 0 0, .bool false]) W := by kernel_rfl
theorem as10_8 (v : Value) (W : World) : (Instr.typeAssert (.iface 178 v) 140 173 true).run Tryz.prog W = .ok (.tuple #[.slice none 0 0, .bool false]) W := by kernel_rfl
theorem as10_9 (v : Value) (W : World) : (Instr.typeAssert (.iface 178 v) 140 177 true).run Tryz.prog W = .ok (.tuple #[.agg #[.slice none 0 0, .slice none 0 0], .bool false]) W := by kernel_rfl
theorem as10_10 (v : Value) (W : World) : (Instr.typeAssert (.iface 178 v) 140 178 true).run Tryz.prog W = .ok (.tuple #[v, .bool true]) W := by kernel_rfl
theorem as0_1 (W : World) : (Instr.typeAssert .nilIface 140 165 true).run Tryz.prog W = .ok (.tuple #[.int .i64 0, .bool false]) W := by kernel_rfl
theorem as0_2 (W : World) : (Instr.typeAssert .nilIface 140 166 true).run Tryz.prog W = .ok (.tuple #[.int .i64 0, .bool false]) W := by kernel_rfl
theorem as0_3 (W : World) : (Instr.typeAssert .nilIface 140 168 true).run Tryz.prog W = .ok (.tuple #[.int .u64 0, .bool false]) W := by kernel_rfl
theorem as0_6 (W : World) : (Instr.typeAssert .nilIface 140 169 true).run Tryz.prog W = .ok (.tuple #[.int .i64 0, .bool false]) W := by kernel_rfl
theorem as0_4 (W : World) : (Instr.typeAssert .nilIface 140 170 true).run Tryz.prog W = .ok (.tuple #[.string ⟨#[]⟩, .bool false]) W := by kernel_rfl
theorem as0_5 (W : World) : (Instr.typeAssert .nilIface 140 171 true).run Tryz.prog W = .ok (.tuple #[.string ⟨#[]⟩, .bool false]) W := by kernel_rfl
theorem as0_7 (W : World) : (Instr.typeAssert .nilIface 140 172 true).run Tryz.prog W = .ok (.tuple #[.slice none 0 0, .bool false]) W := by kernel_rfl
theorem as0_8 (W : World) : (Instr.typeAssert .nilIface 140 173 true).run Tryz.prog W = .ok (.tuple #[.slice none 0 0, .bool false]) W := by kernel_rfl
theorem as0_9 (W : World) : (Instr.typeAssert .nilIface 140 177 true).run Tryz.prog W = .ok (.tuple #[.agg #[.slice none 0 0, .slice none 0 0], .bool false]) W := by kernel_rfl
theorem as0_10 (W : World) : (Instr.typeAssert .nilIface 140 178 true).run Tryz.prog W = .ok (.tuple #[.agg #[.slice none 0 0, .slice none 0 0], .bool false]) W := by kernel_rfl
set_option maxRecDepth 100000 in
theorem kind1_any (n : Int) (s : ByteArray) (tb : Option Addr) (tl tc : Nat) (io : Option Addr) (il ic : Nat) (w : World) :
    Calls Tryz.prog 72 #[.agg #[.int .i64 1, .int .i64 n, .string s, .slice tb tl tc, .slice io il ic]] w fun e w' => e = .returned (.iface 165 (.int .i64 n)) ∧ Below w.heap.size w w' := by
  have hB1 := (Below.refl w.heap.size w).alloc (Nat.le_refl _) (.cells #[.int .i64 1, .int .i64 n, .string s, .slice tb tl tc, .slice io il ic] 26)
  go_enter Tryz.func72, Tryz.ntmps72
  go_wp2
  go_ret
  exact ⟨rfl, hB1⟩
set_option maxRecDepth 100000 in
theorem kind2_any (n : Int) (s : ByteArray) (tb : Option Addr) (tl tc : Nat) (io : Option Addr) (il ic : Nat) (w : World) :
    Calls Tryz.prog 72 #[.agg #[.int .i64 2, .int .i64 n, .string s, .slice tb tl tc, .slice io il ic]] w fun e w' => e = .returned (.iface 166 (.int .i64 n)) ∧ Below w.heap.size w w' := by
  have hB1 := (Below.refl w.heap.size w).alloc (Nat.le_refl _) (.cells #[.int .i64 2, .int .i64 n, .string s, .slice tb tl tc, .slice io il ic] 26)
  go_enter Tryz.func72, Tryz.ntmps72
  go_wp2
  go_ret
  exact ⟨rfl, hB1⟩
set_option maxRecDepth 100000 in
theorem kind3_any (n : Int) (s : ByteArray) (tb : Option Addr) (tl tc : Nat) (io : Option Addr) (il ic : Nat) (w : World) :
    Calls Tryz.prog 72 #[.agg #[.int .i64 3, .int .i64 n, .string s, .slice tb tl tc, .slice io il ic]] w fun e w' => e = .returned (.iface 168 (.int .u64 (IntKind.u64.wrap n))) ∧ Below w.heap.size w w' := by
  have hB1 := (Below.refl w.heap.size w).alloc (Nat.le_refl _) (.cells #[.int .i64 3, .int .i64 n, .string s, .slice tb tl tc, .slice io il ic] 26)
  go_enter Tryz.func72, Tryz.ntmps72
  go_wp2
  go_ret
  exact ⟨rfl, hB1⟩
set_option maxRecDepth 100000 in
theorem kind6_any (n : Int) (s : ByteArray) (tb : Option Addr) (tl tc : Nat) (io : Option Addr) (il ic : Nat) (w : World) :
    Calls Tryz.prog 72 #[.agg #[.int .i64 6, .int .i64 n, .string s, .slice tb tl tc, .slice io il ic]] w fun e w' => e = .returned (.iface 169 (.int .i64 n)) ∧ Below w.heap.size w w' := by
  have hB1 := (Below.refl w.heap.size w).alloc (Nat.le_refl _) (.cells #[.int .i64 6, .int .i64 n, .string s, .slice tb tl tc, .slice io il ic] 26)
  go_enter Tryz.func72, Tryz.ntmps72
  go_wp2
  go_ret
  exact ⟨rfl, hB1⟩
set_option maxRecDepth 100000 in
theorem kind4_any (n : Int) (s : ByteArray) (tb : Option Addr) (tl tc : Nat) (io : Option Addr) (il ic : Nat) (w : World) :
    Calls Tryz.prog 72 #[.agg #[.int .i64 4, .int .i64 n, .string s, .slice tb tl tc, .slice io il ic]] w fun e w' => e = .returned (.iface 170 (.string s)) ∧ Below w.heap.size w w' := by
  have hB1 := (Below.refl w.heap.size w).alloc (Nat.le_refl _) (.cells #[.int .i64 4, .int .i64 n, .string s, .slice tb tl tc, .slice io il ic] 26)
  go_enter Tryz.func72, Tryz.ntmps72
  go_wp2
  go_ret
  exact ⟨rfl, hB1⟩
set_option maxRecDepth 100000 in
theorem kind5_any (n : Int) (s : ByteArray) (tb : Option Addr) (tl tc : Nat) (io : Option Addr) (il ic : Nat) (w : World) :
    Calls Tryz.prog 72 #[.agg #[.int .i64 5, .int .i64 n, .string s, .slice tb tl tc, .slice io il ic]] w fun e w' => e = .returned (.iface 171 (.string s)) ∧ Below w.heap.size w w' := by
  have hB1 := (Below.refl w.heap.size w).alloc (Nat.le_refl _) (.cells #[.int .i64 5, .int .i64 n, .string s, .slice tb tl tc, .slice io il ic] 26)
  go_enter Tryz.func72, Tryz.ntmps72
  go_wp2
  go_ret
  exact ⟨rfl, hB1⟩
set_option maxRecDepth 100000 in
theorem kind7_any (n : Int) (s : ByteArray) (tb : Option Addr) (tl tc : Nat) (io : Option Addr) (il ic : Nat) (w : World) :
    Calls Tryz.prog 72 #[.agg #[.int .i64 7, .int .i64 n, .string s, .slice tb tl tc, .slice io il ic]] w fun e w' => e = .returned (.iface 172 (.slice io il ic)) ∧ Below w.heap.size w w' := by
  have hB1 := (Below.refl w.heap.size w).alloc (Nat.le_refl _) (.cells #[.int .i64 7, .int .i64 n, .string s, .slice tb tl tc, .slice io il ic] 26)
  go_enter Tryz.func72, Tryz.ntmps72
  go_wp2
  go_ret
  exact ⟨rfl, hB1⟩
set_option maxRecDepth 100000 in
theorem kind8_any (n : Int) (s : ByteArray) (tb : Option Addr) (tl tc : Nat) (io : Option Addr) (il ic : Nat) (w : World) :
    Calls Tryz.prog 72 #[.agg #[.int .i64 8, .int .i64 n, .string s, .slice tb tl tc, .slice io il ic]] w fun e w' => e = .returned (.iface 173 (.slice io il ic)) ∧ Below w.heap.size w w' := by
  have hB1 := (Below.refl w.heap.size w).alloc (Nat.le_refl _) (.cells #[.int .i64 8, .int .i64 n, .string s, .slice tb tl tc, .slice io il ic] 26)
  go_enter Tryz.func72, Tryz.ntmps72
  go_wp2
  go_ret
  exact ⟨rfl, hB1⟩
set_option maxRecDepth 100000 in
theorem kind9_any (n : Int) (s : ByteArray) (tb : Option Addr) (tl tc : Nat) (io : Option Addr) (il ic : Nat) (w : World) :
    Calls Tryz.prog 72 #[.agg #[.int .i64 9, .int .i64 n, .string s, .slice tb tl tc, .slice io il ic]] w fun e w' => e = .returned (.iface 177 (.agg #[.slice tb tl tc, .slice io il ic])) ∧ Below w.heap.size w w' := by
  have hB1 := (Below.refl w.heap.size w).alloc (Nat.le_refl _) (.cells #[.int .i64 9, .int .i64 n, .string s, .slice tb tl tc, .slice io il ic] 26)
  go_enter Tryz.func72, Tryz.ntmps72
  go_wp2
  go_ret
  exact ⟨rfl, hB1⟩
set_option maxRecDepth 100000 in
theorem kind10_any (n : Int) (s : ByteArray) (tb : Option Addr) (tl tc : Nat) (io : Option Addr) (il ic : Nat) (w : World) :
    Calls Tryz.prog 72 #[.agg #[.int .i64 10, .int .i64 n, .string s, .slice tb tl tc, .slice io il ic]] w fun e w' => e = .returned (.iface 178 (.agg #[.slice tb tl tc, .slice io il ic])) ∧ Below w.heap.size w w' := by
  have hB1 := (Below.refl w.heap.size w).alloc (Nat.le_refl _) (.cells #[.int .i64 10, .int .i64 n, .string s, .slice tb tl tc, .slice io il ic] 26)
  go_enter Tryz.func72, Tryz.ntmps72
  go_wp2
  go_ret
  exact ⟨rfl, hB1⟩
set_option maxRecDepth 100000 in
theorem kind0_any (k : Int) (n : Int) (s : ByteArray) (tb : Option Addr) (tl tc : Nat) (io : Option Addr) (il ic : Nat) (w : World) (h : ¬ (1 ≤ k ∧ k ≤ 10)) :
    Calls Tryz.prog 72 #[.agg #[.int .i64 k, .int .i64 n, .string s, .slice tb tl tc, .slice io il ic]] w fun e w' => e = .returned .nilIface ∧ Below w.heap.size w w' := by
  have hB1 := (Below.refl w.heap.size w).alloc (Nat.le_refl _) (.cells #[.int .i64 k, .int .i64 n, .string s, .slice tb tl tc, .slice io il ic] 26)
  have f1 : (k == 1) = false := beq_eq_false_iff_ne.2 (by omega)
  have f2 : (k == 2) = false := beq_eq_false_iff_ne.2 (by omega)
  have f3 : (k == 3) = false := beq_eq_false_iff_ne.2 (by omega)
  have f4 : (k == 4) = false := beq_eq_false_iff_ne.2 (by omega)
  have f5 : (k == 5) = false := beq_eq_false_iff_ne.2 (by omega)
  have f6 : (k == 6) = false := beq_eq_false_iff_ne.2 (by omega)
  have f7 : (k == 7) = false := beq_eq_false_iff_ne.2 (by omega)
  have f8 : (k == 8) = false := beq_eq_false_iff_ne.2 (by omega)
  have f9 : (k == 9) = false := beq_eq_false_iff_ne.2 (by omega)
  have f10 : (k == 10) = false := beq_eq_false_iff_ne.2 (by omega)
  clear h
  go_enter Tryz.func72, Tryz.ntmps72
  go_wp2
  go_ret
  exact ⟨rfl, hB1⟩
theorem kd_no {k : Int} (h : ¬ (1 ≤ k ∧ k ≤ 10)) (n : Int) (s : ByteArray) (tb : Option Addr) (tl tc : Nat) (io : Option Addr) (il ic : Nat) : kdV k n s tb tl tc io il ic = .nilIface := by
  unfold kdV
  rw [if_neg (by omega), if_neg (by omega), if_neg (by omega), if_neg (by omega), if_neg (by omega), if_neg (by omega), if_neg (by omega), if_neg (by omega), if_neg (by omega), if_neg (by omega)]
theorem kind_any (k : Int) (n : Int) (s : ByteArray) (tb : Option Addr) (tl tc : Nat) (io : Option Addr) (il ic : Nat) (w : World) :
    Calls Tryz.prog 72 #[.agg #[.int .i64 k, .int .i64 n, .string s, .slice tb tl tc, .slice io il ic]] w fun e w' => e = .returned (kdV k n s tb tl tc io il ic) ∧ Below w.heap.size w w' := by
  by_cases h1 : k = 1
  · subst h1; exact kind1_any n s tb tl tc io il ic w
  by_cases h2 : k = 2
  · subst h2; exact kind2_any n s tb tl tc io il ic w
  by_cases h3 : k = 3
  · subst h3; exact kind3_any n s tb tl tc io il ic w
  by_cases h4 : k = 4
  · subst h4; exact kind4_any n s tb tl tc io il ic w
  by_cases h5 : k = 5
  · subst h5; exact kind5_any n s tb tl tc io il ic w
  by_cases h6 : k = 6
  · subst h6; exact kind6_any n s tb tl tc io il ic w
  by_cases h7 : k = 7
  · subst h7; exact kind7_any n s tb tl tc io il ic w
  by_cases h8 : k = 8
  · subst h8; exact kind8_any n s tb tl tc io il ic w
  by_cases h9 : k = 9
  · subst h9; exact kind9_any n s tb tl tc io il ic w
  by_cases h10 : k = 10
  · subst h10; exact kind10_any n s tb tl tc io il ic w
  rw [kd_no (by omega)]
  exact kind0_any k n s tb tl tc io il ic w (by omega)
set_option maxRecDepth 100000 in
theorem key1_any (n : Int) (s : ByteArray) (tb : Option Addr) (tl tc : Nat) (io : Option Addr) (il ic : Nat) (w : World) :
    Calls Tryz.prog 191 #[.agg #[.int .i64 1, .int .i64 n, .string s, .slice tb tl tc, .slice io il ic]] w fun e w' => e = .returned (.bool true) ∧ Below w.heap.size w w' := by
  have HB1 := Lib.hid ((Below.refl w.heap.size w).alloc (Nat.le_refl _) (.cells #[.int .i64 1, .int .i64 n, .string s, .slice tb tl tc, .slice io il ic] 26))
  have a1 := as1_1 (.int .i64 n)
  have a2 := as1_2 (.int .i64 n)
  have a3 := as1_3 (.int .i64 n)
  have a6 := as1_6 (.int .i64 n)
  have a4 := as1_4 (.int .i64 n)
  go_enter Tryz.func191, Tryz.ntmps191
  go_wp2_with (go_at_call 72; refine (kind1_any n s tb tl tc io il ic _).mono ?_; rintro e w2 ⟨rfl, hb2⟩)
  go_ret
  exact ⟨rfl, HB1.out.trans (hb2.mono HB1.out.size)⟩
set_option maxRecDepth 100000 in
theorem key2_any (n : Int) (s : ByteArray) (tb : Option Addr) (tl tc : Nat) (io : Option Addr) (il ic : Nat) (w : World) :
    Calls Tryz.prog 191 #[.agg #[.int .i64 2, .int .i64 n, .string s, .slice tb tl tc, .slice io il ic]] w fun e w' => e = .returned (.bool true) ∧ Below w.heap.size w w' := by
  have HB1 := Lib.hid ((Below.refl w.heap.size w).alloc (Nat.le_refl _) (.cells #[.int .i64 2, .int .i64 n, .string s, .slice tb tl tc, .slice io il ic] 26))
  have a1 := as2_1 (.int .i64 n)
  have a2 := as2_2 (.int .i64 n)
  have a3 := as2_3 (.int .i64 n)
  have a6 := as2_6 (.int .i64 n)
  have a4 := as2_4 (.int .i64 n)
  go_enter Tryz.func191, Tryz.ntmps191
  go_wp2_with (go_at_call 72; refine (kind2_any n s tb tl tc io il ic _).mono ?_; rintro e w2 ⟨rfl, hb2⟩)
  go_ret
  exact ⟨rfl, HB1.out.trans (hb2.mono HB1.out.size)⟩
set_option maxRecDepth 100000 in
theorem key3_any (n : Int) (s : ByteArray) (tb : Option Addr) (tl tc : Nat) (io : Option Addr) (il ic : Nat) (w : World) :
    Calls Tryz.prog 191 #[.agg #[.int .i64 3, .int .i64 n, .string s, .slice tb tl tc, .slice io il ic]] w fun e w' => e = .returned (.bool true) ∧ Below w.heap.size w w' := by
  have HB1 := Lib.hid ((Below.refl w.heap.size w).alloc (Nat.le_refl _) (.cells #[.int .i64 3, .int .i64 n, .string s, .slice tb tl tc, .slice io il ic] 26))
  have a1 := as3_1 (.int .u64 (IntKind.u64.wrap n))
  have a2 := as3_2 (.int .u64 (IntKind.u64.wrap n))
  have a3 := as3_3 (.int .u64 (IntKind.u64.wrap n))
  have a6 := as3_6 (.int .u64 (IntKind.u64.wrap n))
  have a4 := as3_4 (.int .u64 (IntKind.u64.wrap n))
  go_enter Tryz.func191, Tryz.ntmps191
  go_wp2_with (go_at_call 72; refine (kind3_any n s tb tl tc io il ic _).mono ?_; rintro e w2 ⟨rfl, hb2⟩)
  go_ret
  exact ⟨rfl, HB1.out.trans (hb2.mono HB1.out.size)⟩
set_option maxRecDepth 100000 in
theorem key4_any (n : Int) (s : ByteArray) (tb : Option Addr) (tl tc : Nat) (io : Option Addr) (il ic : Nat) (w : World) :
    Calls Tryz.prog 191 #[.agg #[.int .i64 4, .int .i64 n, .string s, .slice tb tl tc, .slice io il ic]] w fun e w' => e = .returned (.bool true) ∧ Below w.heap.size w w' := by
  have HB1 := Lib.hid ((Below.refl w.heap.size w).alloc (Nat.le_refl _) (.cells #[.int .i64 4, .int .i64 n, .string s, .slice tb tl tc, .slice io il ic] 26))
  have a1 := as4_1 (.string s)
  have a2 := as4_2 (.string s)
  have a3 := as4_3 (.string s)
  have a6 := as4_6 (.string s)
  have a4 := as4_4 (.string s)
  go_enter Tryz.func191, Tryz.ntmps191
  go_wp2_with (go_at_call 72; refine (kind4_any n s tb tl tc io il ic _).mono ?_; rintro e w2 ⟨rfl, hb2⟩)
  go_ret
  exact ⟨rfl, HB1.out.trans (hb2.mono HB1.out.size)⟩
set_option maxRecDepth 100000 in
theorem key5_any (n : Int) (s : ByteArray) (tb : Option Addr) (tl tc : Nat) (io : Option Addr) (il ic : Nat) (w : World) :
    Calls Tryz.prog 191 #[.agg #[.int .i64 5, .int .i64 n, .string s, .slice tb tl tc, .slice io il ic]] w fun e w' => e = .returned (.bool false) ∧ Below w.heap.size w w' := by
  have HB1 := Lib.hid ((Below.refl w.heap.size w).alloc (Nat.le_refl _) (.cells #[.int .i64 5, .int .i64 n, .string s, .slice tb tl tc, .slice io il ic] 26))
  have a1 := as5_1 (.string s)
  have a2 := as5_2 (.string s)
  have a3 := as5_3 (.string s)
  have a6 := as5_6 (.string s)
  have a4 := as5_4 (.string s)
  go_enter Tryz.func191, Tryz.ntmps191
  go_wp2_with (go_at_call 72; refine (kind5_any n s tb tl tc io il ic _).mono ?_; rintro e w2 ⟨rfl, hb2⟩)
  go_ret
  exact ⟨rfl, HB1.out.trans (hb2.mono HB1.out.size)⟩
set_option maxRecDepth 100000 in
theorem key6_any (n : Int) (s : ByteArray) (tb : Option Addr) (tl tc : Nat) (io : Option Addr) (il ic : Nat) (w : World) :
    Calls Tryz.prog 191 #[.agg #[.int .i64 6, .int .i64 n, .string s, .slice tb tl tc, .slice io il ic]] w fun e w' => e = .returned (.bool true) ∧ Below w.heap.size w w' := by
  have HB1 := Lib.hid ((Below.refl w.heap.size w).alloc (Nat.le_refl _) (.cells #[.int .i64 6, .int .i64 n, .string s, .slice tb tl tc, .slice io il ic] 26))
  have a1 := as6_1 (.int .i64 n)
  have a2 := as6_2 (.int .i64 n)
  have a3 := as6_3 (.int .i64 n)
  have a6 := as6_6 (.int .i64 n)
  have a4 := as6_4 (.int .i64 n)
  go_enter Tryz.func191, Tryz.ntmps191
  go_wp2_with (go_at_call 72; refine (kind6_any n s tb tl tc io il ic _).mono ?_; rintro e w2 ⟨rfl, hb2⟩)
  go_ret
  exact ⟨rfl, HB1.out.trans (hb2.mono HB1.out.size)⟩
set_option maxRecDepth 100000 in
theorem key7_any (n : Int) (s : ByteArray) (tb : Option Addr) (tl tc : Nat) (io : Option Addr) (il ic : Nat) (w : World) :
    Calls Tryz.prog 191 #[.agg #[.int .i64 7, .int .i64 n, .string s, .slice tb tl tc, .slice io il ic]] w fun e w' => e = .returned (.bool false) ∧ Below w.heap.size w w' := by
  have HB1 := Lib.hid ((Below.refl w.heap.size w).alloc (Nat.le_refl _) (.cells #[.int .i64 7, .int .i64 n, .string s, .slice tb tl tc, .slice io il ic] 26))
  have a1 := as7_1 (.slice io il ic)
  have a2 := as7_2 (.slice io il ic)
  have a3 := as7_3 (.slice io il ic)
  have a6 := as7_6 (.slice io il ic)
  have a4 := as7_4 (.slice io il ic)
  go_enter Tryz.func191, Tryz.ntmps191
  go_wp2_with (go_at_call 72; refine (kind7_any n s tb tl tc io il ic _).mono ?_; rintro e w2 ⟨rfl, hb2⟩)
  go_ret
  exact ⟨rfl, HB1.out.trans (hb2.mono HB1.out.size)⟩
set_option maxRecDepth 100000 in
theorem key8_any (n : Int) (s : ByteArray) (tb : Option Addr) (tl tc : Nat) (io : Option Addr) (il ic : Nat) (w : World) :
    Calls Tryz.prog 191 #[.agg #[.int .i64 8, .int .i64 n, .string s, .slice tb tl tc, .slice io il ic]] w fun e w' => e = .returned (.bool false) ∧ Below w.heap.size w w' := by
  have HB1 := Lib.hid ((Below.refl w.heap.size w).alloc (Nat.le_refl _) (.cells #[.int .i64 8, .int .i64 n, .string s, .slice tb tl tc, .slice io il ic] 26))
  have a1 := as8_1 (.slice io il ic)
  have a2 := as8_2 (.slice io il ic)
  have a3 := as8_3 (.slice io il ic)
  have a6 := as8_6 (.slice io il ic)
  have a4 := as8_4 (.slice io il ic)
  go_enter Tryz.func191, Tryz.ntmps191
  go_wp2_with (go_at_call 72; refine (kind8_any n s tb tl tc io il ic _).mono ?_; rintro e w2 ⟨rfl, hb2⟩)
  go_ret
  exact ⟨rfl, HB1.out.trans (hb2.mono HB1.out.size)⟩
set_option maxRecDepth 100000 in
theorem key9_any (n : Int) (s : ByteArray) (tb : Option Addr) (tl tc : Nat) (io : Option Addr) (il ic : Nat) (w : World) :
    Calls Tryz.prog 191 #[.agg #[.int .i64 9, .int .i64 n, .string s, .slice tb tl tc, .slice io il ic]] w fun e w' => e = .returned (.bool false) ∧ Below w.heap.size w w' := by
  have HB1 := Lib.hid ((Below.refl w.heap.size w).alloc (Nat.le_refl _) (.cells #[.int .i64 9, .int .i64 n, .string s, .slice tb tl tc, .slice io il ic] 26))
  have a1 := as9_1 (.agg #[.slice tb tl tc, .slice io il ic])
  have a2 := as9_2 (.agg #[.slice tb tl tc, .slice io il ic])
  have a3 := as9_3 (.agg #[.slice tb tl tc, .slice io il ic])
  have a6 := as9_6 (.agg #[.slice tb tl tc, .slice io il ic])
  have a4 := as9_4 (.agg #[.slice tb tl tc, .slice io il ic])
  go_enter Tryz.func191, Tryz.ntmps191
  go_wp2_with (go_at_call 72; refine (kind9_any n s tb tl tc io il ic _).mono ?_; rintro e w2 ⟨rfl, hb2⟩)
  go_ret
  exact ⟨rfl, HB1.out.trans (hb2.mono HB1.out.size)⟩
set_option maxRecDepth 100000 in
theorem key10_any (n : Int) (s : ByteArray) (tb : Option Addr) (tl tc : Nat) (io : Option Addr) (il ic : Nat) (w : World) :
    Calls Tryz.prog 191 #[.agg #[.int .i64 10, .int .i64 n, .string s, .slice tb tl tc, .slice io il ic]] w fun e w' => e = .returned (.bool false) ∧ Below w.heap.size w w' := by
  have HB1 := Lib.hid ((Below.refl w.heap.size w).alloc (Nat.le_refl _) (.cells #[.int .i64 10, .int .i64 n, .string s, .slice tb tl tc, .slice io il ic] 26))
  have a1 := as10_1 (.agg #[.slice tb tl tc, .slice io il ic])
  have a2 := as10_2 (.agg #[.slice tb tl tc, .slice io il ic])
  have a3 := as10_3 (.agg #[.slice tb tl tc, .slice io il ic])
  have a6 := as10_6 (.agg #[.slice tb tl tc, .slice io il ic])
  have a4 := as10_4 (.agg #[.slice tb tl tc, .slice io il ic])
  go_enter Tryz.func191, Tryz.ntmps191
  go_wp2_with (go_at_call 72; refine (kind10_any n s tb tl tc io il ic _).mono ?_; rintro e w2 ⟨rfl, hb2⟩)
  go_ret
  exact ⟨rfl, HB1.out.trans (hb2.mono HB1.out.size)⟩
set_option maxRecDepth 100000 in
theorem key0_any (k : Int) (n : Int) (s : ByteArray) (tb : Option Addr) (tl tc : Nat) (io : Option Addr) (il ic : Nat) (w : World) (h : ¬ (1 ≤ k ∧ k ≤ 10)) :
    Calls Tryz.prog 191 #[.agg #[.int .i64 k, .int .i64 n, .string s, .slice tb tl tc, .slice io il ic]] w fun e w' => e = .returned (.bool false) ∧ Below w.heap.size w w' := by
  have HB1 := Lib.hid ((Below.refl w.heap.size w).alloc (Nat.le_refl _) (.cells #[.int .i64 k, .int .i64 n, .string s, .slice tb tl tc, .slice io il ic] 26))
  have a1 := as0_1
  have a2 := as0_2
  have a3 := as0_3
  have a6 := as0_6
  have a4 := as0_4
  go_enter Tryz.func191, Tryz.ntmps191
  go_wp2_with (go_at_call 72; refine (kind0_any k n s tb tl tc io il ic _ h).mono ?_; rintro e w2 ⟨rfl, hb2⟩)
  go_ret
  exact ⟨rfl, HB1.out.trans (hb2.mono HB1.out.size)⟩
theorem lkey_any (k : Int) (n : Int) (s : ByteArray) (tb : Option Addr) (tl tc : Nat) (io : Option Addr) (il ic : Nat) (w : World) :
    Calls Tryz.prog 191 #[.agg #[.int .i64 k, .int .i64 n, .string s, .slice tb tl tc, .slice io il ic]] w fun e w' => e = .returned (.bool (keyB k)) ∧ Below w.heap.size w w' := by
  by_cases h1 : k = 1
  · subst h1; exact key1_any n s tb tl tc io il ic w
  by_cases h2 : k = 2
  · subst h2; exact key2_any n s tb tl tc io il ic w
  by_cases h3 : k = 3
  · subst h3; exact key3_any n s tb tl tc io il ic w
  by_cases h4 : k = 4
  · subst h4; exact key4_any n s tb tl tc io il ic w
  by_cases h5 : k = 5
  · subst h5; exact key5_any n s tb tl tc io il ic w
  by_cases h6 : k = 6
  · subst h6; exact key6_any n s tb tl tc io il ic w
  by_cases h7 : k = 7
  · subst h7; exact key7_any n s tb tl tc io il ic w
  by_cases h8 : k = 8
  · subst h8; exact key8_any n s tb tl tc io il ic w
  by_cases h9 : k = 9
  · subst h9; exact key9_any n s tb tl tc io il ic w
  by_cases h10 : k = 10
  · subst h10; exact key10_any n s tb tl tc io il ic w
  have hk : keyB k = false := by unfold keyB; rw [decide_eq_false (by omega), decide_eq_false (by omega)]; rfl
  rw [hk]
  exact key0_any k n s tb tl tc io il ic w (by omega)
end Go.Proofs.YtdogddliifbjnaaGreat.Va
