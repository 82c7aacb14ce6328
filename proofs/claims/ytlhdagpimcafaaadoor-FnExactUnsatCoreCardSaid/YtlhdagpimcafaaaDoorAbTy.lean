/- What the reckoning asks of the types. Written by gen/abty.py. -/
import Derived.Test.YtlhdagpimcafaaaDoorAbTwo
import Derived.Test.YtlhdagpimcafaaaDoorProg
open Go Go.Proofs Go.RowKit
namespace Go.Proofs.YtlhdagpimcafaaaDoor.Ab
set_option maxRecDepth 100000

theorem ty_kind_int : kindOf Tryd.prog 3 = some none := by kernel_rfl
theorem ty_size_int : sizeIn Tryd.prog 3 = some 1 := by kernel_rfl
theorem ty_zero_int : zeroCells? Tryd.prog 3 = some [.d (.v (.int .i64 0))] := by kernel_rfl
theorem ty_kind_bool : kindOf Tryd.prog 4 = some none := by kernel_rfl
theorem ty_size_bool : sizeIn Tryd.prog 4 = some 1 := by kernel_rfl
theorem ty_zero_bool : zeroCells? Tryd.prog 4 = some [.d (.v (.bool false))] := by kernel_rfl
theorem ty_kind_string : kindOf Tryd.prog 9 = some none := by kernel_rfl
theorem ty_size_string : sizeIn Tryd.prog 9 = some 1 := by kernel_rfl
theorem ty_zero_string : zeroCells? Tryd.prog 9 = some [.d (.v (.string ⟨#[]⟩))] := by kernel_rfl
theorem ty_kind_bitSet : kindOf Tryd.prog 47 = some none := by kernel_rfl
theorem ty_size_bitSet : sizeIn Tryd.prog 47 = some 1 := by kernel_rfl
theorem ty_zero_bitSet : zeroCells? Tryd.prog 47 = some [.d (.v (.int .u64 0))] := by kernel_rfl
theorem ty_kind_uint8 : kindOf Tryd.prog 5 = some none := by kernel_rfl
theorem ty_size_uint8 : sizeIn Tryd.prog 5 = some 1 := by kernel_rfl
theorem ty_zero_uint8 : zeroCells? Tryd.prog 5 = some [.d (.v (.int .u8 0))] := by kernel_rfl
theorem ty_kind_Lint : kindOf Tryd.prog 24 = some none := by kernel_rfl
theorem ty_size_Lint : sizeIn Tryd.prog 24 = some 1 := by kernel_rfl
theorem ty_zero_Lint : zeroCells? Tryd.prog 24 = some [.d (.v (.slice none 0 0))] := by kernel_rfl
theorem ty_und_Lint : Tryd.prog.underlying 24 = some (.slice 3) := by kernel_rfl
theorem ty_el_Lint : elOf Tryd.prog 24 = some (3, 1, 8) := by kernel_rfl
theorem ty_kind_LLint : kindOf Tryd.prog 22 = some none := by kernel_rfl
theorem ty_size_LLint : sizeIn Tryd.prog 22 = some 1 := by kernel_rfl
theorem ty_zero_LLint : zeroCells? Tryd.prog 22 = some [.d (.v (.slice none 0 0))] := by kernel_rfl
theorem ty_und_LLint : Tryd.prog.underlying 22 = some (.slice 24) := by kernel_rfl
theorem ty_el_LLint : elOf Tryd.prog 22 = some (24, 1, 24) := by kernel_rfl
theorem ty_kind_LbitSet : kindOf Tryd.prog 43 = some none := by kernel_rfl
theorem ty_size_LbitSet : sizeIn Tryd.prog 43 = some 1 := by kernel_rfl
theorem ty_zero_LbitSet : zeroCells? Tryd.prog 43 = some [.d (.v (.slice none 0 0))] := by kernel_rfl
theorem ty_und_LbitSet : Tryd.prog.underlying 43 = some (.slice 47) := by kernel_rfl
theorem ty_el_LbitSet : elOf Tryd.prog 43 = some (47, 1, 8) := by kernel_rfl
theorem ty_und_string : Tryd.prog.underlying 9 = some (.string) := by kernel_rfl
theorem ty_und_int : Tryd.prog.underlying 3 = some (.int .i64) := by kernel_rfl
theorem ty_und_uint8 : Tryd.prog.underlying 5 = some (.int .u8) := by kernel_rfl
theorem ty_und_int32 : Tryd.prog.underlying 21 = some (.int .i32) := by kernel_rfl
theorem ty_mix : Tryd.prog.follows .mixedOrders = true := by kernel_rfl
theorem tyL : ((((((kindOf Tryd.prog 3 = some none) ∧ (sizeIn Tryd.prog 3 = some 1)) ∧ ((zeroCells? Tryd.prog 3 = some [.d (.v (.int .i64 0))]) ∧ (kindOf Tryd.prog 4 = some none))) ∧ (((sizeIn Tryd.prog 4 = some 1) ∧ (zeroCells? Tryd.prog 4 = some [.d (.v (.bool false))])) ∧ ((kindOf Tryd.prog 9 = some none) ∧ (sizeIn Tryd.prog 9 = some 1)))) ∧ ((((zeroCells? Tryd.prog 9 = some [.d (.v (.string ⟨#[]⟩))]) ∧ (kindOf Tryd.prog 47 = some none)) ∧ ((sizeIn Tryd.prog 47 = some 1) ∧ (zeroCells? Tryd.prog 47 = some [.d (.v (.int .u64 0))]))) ∧ (((kindOf Tryd.prog 5 = some none) ∧ (sizeIn Tryd.prog 5 = some 1)) ∧ ((zeroCells? Tryd.prog 5 = some [.d (.v (.int .u8 0))]) ∧ ((kindOf Tryd.prog 24 = some none) ∧ (sizeIn Tryd.prog 24 = some 1)))))) ∧ (((((zeroCells? Tryd.prog 24 = some [.d (.v (.slice none 0 0))]) ∧ (Tryd.prog.underlying 24 = some (.slice 3))) ∧ ((elOf Tryd.prog 24 = some (3, 1, 8)) ∧ (kindOf Tryd.prog 22 = some none))) ∧ (((sizeIn Tryd.prog 22 = some 1) ∧ (zeroCells? Tryd.prog 22 = some [.d (.v (.slice none 0 0))])) ∧ ((Tryd.prog.underlying 22 = some (.slice 24)) ∧ (elOf Tryd.prog 22 = some (24, 1, 24))))) ∧ ((((kindOf Tryd.prog 43 = some none) ∧ (sizeIn Tryd.prog 43 = some 1)) ∧ ((zeroCells? Tryd.prog 43 = some [.d (.v (.slice none 0 0))]) ∧ (Tryd.prog.underlying 43 = some (.slice 47)))) ∧ (((elOf Tryd.prog 43 = some (47, 1, 8)) ∧ (Tryd.prog.underlying 9 = some (.string))) ∧ ((Tryd.prog.underlying 3 = some (.int .i64)) ∧ ((Tryd.prog.underlying 5 = some (.int .u8)) ∧ (Tryd.prog.underlying 21 = some (.int .i32)))))))) :=
  ⟨⟨⟨⟨⟨ty_kind_int, ty_size_int⟩, ⟨ty_zero_int, ty_kind_bool⟩⟩, ⟨⟨ty_size_bool, ty_zero_bool⟩, ⟨ty_kind_string, ty_size_string⟩⟩⟩, ⟨⟨⟨ty_zero_string, ty_kind_bitSet⟩, ⟨ty_size_bitSet, ty_zero_bitSet⟩⟩, ⟨⟨ty_kind_uint8, ty_size_uint8⟩, ⟨ty_zero_uint8, ⟨ty_kind_Lint, ty_size_Lint⟩⟩⟩⟩⟩, ⟨⟨⟨⟨ty_zero_Lint, ty_und_Lint⟩, ⟨ty_el_Lint, ty_kind_LLint⟩⟩, ⟨⟨ty_size_LLint, ty_zero_LLint⟩, ⟨ty_und_LLint, ty_el_LLint⟩⟩⟩, ⟨⟨⟨ty_kind_LbitSet, ty_size_LbitSet⟩, ⟨ty_zero_LbitSet, ty_und_LbitSet⟩⟩, ⟨⟨ty_el_LbitSet, ty_und_string⟩, ⟨ty_und_int, ⟨ty_und_uint8, ty_und_int32⟩⟩⟩⟩⟩⟩
end Go.Proofs.YtlhdagpimcafaaaDoor.Ab

