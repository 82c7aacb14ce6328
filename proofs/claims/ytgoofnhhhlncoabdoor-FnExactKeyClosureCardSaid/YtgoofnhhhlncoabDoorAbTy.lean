/- What the reckoning asks of the types. Written by gen/abty.py. -/
import Derived.Test.YtgoofnhhhlncoabDoorAbTwo
import Derived.Test.YtgoofnhhhlncoabDoorProg
open Go Go.Proofs Go.RowKit
namespace Go.Proofs.YtgoofnhhhlncoabDoor.Ab
set_option maxRecDepth 100000

theorem ty_kind_int : kindOf Tryd.prog 3 = some none := by kernel_rfl
theorem ty_size_int : sizeIn Tryd.prog 3 = some 1 := by kernel_rfl
theorem ty_zero_int : zeroCells? Tryd.prog 3 = some [.d (.v (.int .i64 0))] := by kernel_rfl
theorem ty_kind_bool : kindOf Tryd.prog 4 = some none := by kernel_rfl
theorem ty_size_bool : sizeIn Tryd.prog 4 = some 1 := by kernel_rfl
theorem ty_zero_bool : zeroCells? Tryd.prog 4 = some [.d (.v (.bool false))] := by kernel_rfl
theorem ty_kind_string : kindOf Tryd.prog 9 = some none := by kernel_rfl
theorem ty_size_string : sizeIn Tryd.prog 9 = some 1 := by kernel_rfl
theorem ty_zero_string : zeroCells? Tryd.prog 9 = some [.d (.v (.string ⟨#[]⟩))] := by kernel_rfl
theorem ty_kind_bitSet : kindOf Tryd.prog 66 = some none := by kernel_rfl
theorem ty_size_bitSet : sizeIn Tryd.prog 66 = some 1 := by kernel_rfl
theorem ty_zero_bitSet : zeroCells? Tryd.prog 66 = some [.d (.v (.int .u64 0))] := by kernel_rfl
theorem ty_kind_uint8 : kindOf Tryd.prog 5 = some none := by kernel_rfl
theorem ty_size_uint8 : sizeIn Tryd.prog 5 = some 1 := by kernel_rfl
theorem ty_zero_uint8 : zeroCells? Tryd.prog 5 = some [.d (.v (.int .u8 0))] := by kernel_rfl
theorem ty_kind_Lint : kindOf Tryd.prog 24 = some none := by kernel_rfl
theorem ty_size_Lint : sizeIn Tryd.prog 24 = some 1 := by kernel_rfl
theorem ty_zero_Lint : zeroCells? Tryd.prog 24 = some [.d (.v (.slice none 0 0))] := by kernel_rfl
theorem ty_und_Lint : Tryd.prog.underlying 24 = some (.slice 3) := by kernel_rfl
theorem ty_el_Lint : elOf Tryd.prog 24 = some (3, 1, 8) := by kernel_rfl
theorem ty_kind_Lbool : kindOf Tryd.prog 82 = some none := by kernel_rfl
theorem ty_size_Lbool : sizeIn Tryd.prog 82 = some 1 := by kernel_rfl
theorem ty_zero_Lbool : zeroCells? Tryd.prog 82 = some [.d (.v (.slice none 0 0))] := by kernel_rfl
theorem ty_und_Lbool : Tryd.prog.underlying 82 = some (.slice 4) := by kernel_rfl
theorem ty_el_Lbool : elOf Tryd.prog 82 = some (4, 1, 1) := by kernel_rfl
theorem ty_kind_Luint8 : kindOf Tryd.prog 99 = some none := by kernel_rfl
theorem ty_size_Luint8 : sizeIn Tryd.prog 99 = some 1 := by kernel_rfl
theorem ty_zero_Luint8 : zeroCells? Tryd.prog 99 = some [.d (.v (.slice none 0 0))] := by kernel_rfl
theorem ty_und_Luint8 : Tryd.prog.underlying 99 = some (.slice 5) := by kernel_rfl
theorem ty_el_Luint8 : elOf Tryd.prog 99 = some (5, 1, 1) := by kernel_rfl
theorem ty_kind_LRelation : kindOf Tryd.prog 30 = some none := by kernel_rfl
theorem ty_size_LRelation : sizeIn Tryd.prog 30 = some 1 := by kernel_rfl
theorem ty_zero_LRelation : zeroCells? Tryd.prog 30 = some [.d (.v (.slice none 0 0))] := by kernel_rfl
theorem ty_und_LRelation : Tryd.prog.underlying 30 = some (.slice 62) := by kernel_rfl
theorem ty_el_LRelation : elOf Tryd.prog 30 = some (62, 3, 32) := by kernel_rfl
theorem ty_kind_LAtom : kindOf Tryd.prog 32 = some none := by kernel_rfl
theorem ty_size_LAtom : sizeIn Tryd.prog 32 = some 1 := by kernel_rfl
theorem ty_zero_LAtom : zeroCells? Tryd.prog 32 = some [.d (.v (.slice none 0 0))] := by kernel_rfl
theorem ty_und_LAtom : Tryd.prog.underlying 32 = some (.slice 60) := by kernel_rfl
theorem ty_el_LAtom : elOf Tryd.prog 32 = some (60, 2, 32) := by kernel_rfl
theorem ty_kind_LatomShape : kindOf Tryd.prog 67 = some none := by kernel_rfl
theorem ty_size_LatomShape : sizeIn Tryd.prog 67 = some 1 := by kernel_rfl
theorem ty_zero_LatomShape : zeroCells? Tryd.prog 67 = some [.d (.v (.slice none 0 0))] := by kernel_rfl
theorem ty_und_LatomShape : Tryd.prog.underlying 67 = some (.slice 93) := by kernel_rfl
theorem ty_el_LatomShape : elOf Tryd.prog 67 = some (93, 2, 16) := by kernel_rfl
theorem ty_kind_Relation : kindOf Tryd.prog 62 = some (some 3) := by kernel_rfl
theorem ty_size_Relation : sizeIn Tryd.prog 62 = some 3 := by kernel_rfl
theorem ty_zero_Relation : zeroCells? Tryd.prog 62 = some [.d (.v (.string ⟨#[]⟩)), .d (.v (.int .i64 0)), .d (.v (.int .i64 0))] := by kernel_rfl
theorem ty_off_Relation_0 : fieldOff Tryd.prog 62 0 = some 0 := by kernel_rfl
theorem ty_off_Relation_1 : fieldOff Tryd.prog 62 1 = some 1 := by kernel_rfl
theorem ty_off_Relation_2 : fieldOff Tryd.prog 62 2 = some 2 := by kernel_rfl
theorem ty_pl_Relation : structPl Tryd.prog 62 = some [(0, 1), (1, 1), (2, 1)] := by kernel_rfl
theorem ty_kind_Atom : kindOf Tryd.prog 60 = some (some 2) := by kernel_rfl
theorem ty_size_Atom : sizeIn Tryd.prog 60 = some 2 := by kernel_rfl
theorem ty_zero_Atom : zeroCells? Tryd.prog 60 = some [.d (.v (.int .i64 0)), .d (.v (.slice none 0 0))] := by kernel_rfl
theorem ty_off_Atom_0 : fieldOff Tryd.prog 60 0 = some 0 := by kernel_rfl
theorem ty_off_Atom_1 : fieldOff Tryd.prog 60 1 = some 1 := by kernel_rfl
theorem ty_pl_Atom : structPl Tryd.prog 60 = some [(0, 1), (1, 1)] := by kernel_rfl
theorem ty_kind_Query : kindOf Tryd.prog 34 = some (some 3) := by kernel_rfl
theorem ty_size_Query : sizeIn Tryd.prog 34 = some 3 := by kernel_rfl
theorem ty_zero_Query : zeroCells? Tryd.prog 34 = some [.d (.v (.int .i64 0)), .d (.v (.slice none 0 0)), .d (.v (.slice none 0 0))] := by kernel_rfl
theorem ty_off_Query_0 : fieldOff Tryd.prog 34 0 = some 0 := by kernel_rfl
theorem ty_off_Query_1 : fieldOff Tryd.prog 34 1 = some 1 := by kernel_rfl
theorem ty_off_Query_2 : fieldOff Tryd.prog 34 2 = some 2 := by kernel_rfl
theorem ty_pl_Query : structPl Tryd.prog 34 = some [(0, 1), (1, 1), (2, 1)] := by kernel_rfl
theorem ty_kind_queryShape : kindOf Tryd.prog 69 = some (some 2) := by kernel_rfl
theorem ty_size_queryShape : sizeIn Tryd.prog 69 = some 2 := by kernel_rfl
theorem ty_zero_queryShape : zeroCells? Tryd.prog 69 = some [.d (.v (.int .u64 0)), .d (.v (.slice none 0 0))] := by kernel_rfl
theorem ty_off_queryShape_0 : fieldOff Tryd.prog 69 0 = some 0 := by kernel_rfl
theorem ty_off_queryShape_1 : fieldOff Tryd.prog 69 1 = some 1 := by kernel_rfl
theorem ty_pl_queryShape : structPl Tryd.prog 69 = some [(0, 1), (1, 1)] := by kernel_rfl
theorem ty_kind_atomShape : kindOf Tryd.prog 93 = some (some 2) := by kernel_rfl
theorem ty_size_atomShape : sizeIn Tryd.prog 93 = some 2 := by kernel_rfl
theorem ty_zero_atomShape : zeroCells? Tryd.prog 93 = some [.d (.v (.int .u64 0)), .d (.v (.int .u64 0))] := by kernel_rfl
theorem ty_off_atomShape_0 : fieldOff Tryd.prog 93 0 = some 0 := by kernel_rfl
theorem ty_off_atomShape_1 : fieldOff Tryd.prog 93 1 = some 1 := by kernel_rfl
theorem ty_pl_atomShape : structPl Tryd.prog 93 = some [(0, 1), (1, 1)] := by kernel_rfl
theorem ty_mix : Tryd.prog.follows .mixedOrders = true := by kernel_rfl
theorem tyL : (((((((kindOf Tryd.prog 3 = some none) ∧ (sizeIn Tryd.prog 3 = some 1)) ∧ ((zeroCells? Tryd.prog 3 = some [.d (.v (.int .i64 0))]) ∧ (kindOf Tryd.prog 4 = some none))) ∧ (((sizeIn Tryd.prog 4 = some 1) ∧ (zeroCells? Tryd.prog 4 = some [.d (.v (.bool false))])) ∧ ((kindOf Tryd.prog 9 = some none) ∧ ((sizeIn Tryd.prog 9 = some 1) ∧ (zeroCells? Tryd.prog 9 = some [.d (.v (.string ⟨#[]⟩))]))))) ∧ ((((kindOf Tryd.prog 66 = some none) ∧ (sizeIn Tryd.prog 66 = some 1)) ∧ ((zeroCells? Tryd.prog 66 = some [.d (.v (.int .u64 0))]) ∧ ((kindOf Tryd.prog 5 = some none) ∧ (sizeIn Tryd.prog 5 = some 1)))) ∧ (((zeroCells? Tryd.prog 5 = some [.d (.v (.int .u8 0))]) ∧ (kindOf Tryd.prog 24 = some none)) ∧ ((sizeIn Tryd.prog 24 = some 1) ∧ ((zeroCells? Tryd.prog 24 = some [.d (.v (.slice none 0 0))]) ∧ (Tryd.prog.underlying 24 = some (.slice 3))))))) ∧ (((((elOf Tryd.prog 24 = some (3, 1, 8)) ∧ (kindOf Tryd.prog 82 = some none)) ∧ ((sizeIn Tryd.prog 82 = some 1) ∧ (zeroCells? Tryd.prog 82 = some [.d (.v (.slice none 0 0))]))) ∧ (((Tryd.prog.underlying 82 = some (.slice 4)) ∧ (elOf Tryd.prog 82 = some (4, 1, 1))) ∧ ((kindOf Tryd.prog 99 = some none) ∧ ((sizeIn Tryd.prog 99 = some 1) ∧ (zeroCells? Tryd.prog 99 = some [.d (.v (.slice none 0 0))]))))) ∧ ((((Tryd.prog.underlying 99 = some (.slice 5)) ∧ (elOf Tryd.prog 99 = some (5, 1, 1))) ∧ ((kindOf Tryd.prog 30 = some none) ∧ ((sizeIn Tryd.prog 30 = some 1) ∧ (zeroCells? Tryd.prog 30 = some [.d (.v (.slice none 0 0))])))) ∧ (((Tryd.prog.underlying 30 = some (.slice 62)) ∧ (elOf Tryd.prog 30 = some (62, 3, 32))) ∧ ((kindOf Tryd.prog 32 = some none) ∧ ((sizeIn Tryd.prog 32 = some 1) ∧ (zeroCells? Tryd.prog 32 = some [.d (.v (.slice none 0 0))]))))))) ∧ ((((((Tryd.prog.underlying 32 = some (.slice 60)) ∧ (elOf Tryd.prog 32 = some (60, 2, 32))) ∧ ((kindOf Tryd.prog 67 = some none) ∧ (sizeIn Tryd.prog 67 = some 1))) ∧ (((zeroCells? Tryd.prog 67 = some [.d (.v (.slice none 0 0))]) ∧ (Tryd.prog.underlying 67 = some (.slice 93))) ∧ ((elOf Tryd.prog 67 = some (93, 2, 16)) ∧ ((kindOf Tryd.prog 62 = some (some 3)) ∧ (sizeIn Tryd.prog 62 = some 3))))) ∧ ((((zeroCells? Tryd.prog 62 = some [.d (.v (.string ⟨#[]⟩)), .d (.v (.int .i64 0)), .d (.v (.int .i64 0))]) ∧ (fieldOff Tryd.prog 62 0 = some 0)) ∧ ((fieldOff Tryd.prog 62 1 = some 1) ∧ ((fieldOff Tryd.prog 62 2 = some 2) ∧ (structPl Tryd.prog 62 = some [(0, 1), (1, 1), (2, 1)])))) ∧ (((kindOf Tryd.prog 60 = some (some 2)) ∧ (sizeIn Tryd.prog 60 = some 2)) ∧ ((zeroCells? Tryd.prog 60 = some [.d (.v (.int .i64 0)), .d (.v (.slice none 0 0))]) ∧ ((fieldOff Tryd.prog 60 0 = some 0) ∧ (fieldOff Tryd.prog 60 1 = some 1)))))) ∧ (((((structPl Tryd.prog 60 = some [(0, 1), (1, 1)]) ∧ (kindOf Tryd.prog 34 = some (some 3))) ∧ ((sizeIn Tryd.prog 34 = some 3) ∧ ((zeroCells? Tryd.prog 34 = some [.d (.v (.int .i64 0)), .d (.v (.slice none 0 0)), .d (.v (.slice none 0 0))]) ∧ (fieldOff Tryd.prog 34 0 = some 0)))) ∧ (((fieldOff Tryd.prog 34 1 = some 1) ∧ (fieldOff Tryd.prog 34 2 = some 2)) ∧ ((structPl Tryd.prog 34 = some [(0, 1), (1, 1), (2, 1)]) ∧ ((kindOf Tryd.prog 69 = some (some 2)) ∧ (sizeIn Tryd.prog 69 = some 2))))) ∧ ((((zeroCells? Tryd.prog 69 = some [.d (.v (.int .u64 0)), .d (.v (.slice none 0 0))]) ∧ (fieldOff Tryd.prog 69 0 = some 0)) ∧ ((fieldOff Tryd.prog 69 1 = some 1) ∧ ((structPl Tryd.prog 69 = some [(0, 1), (1, 1)]) ∧ (kindOf Tryd.prog 93 = some (some 2))))) ∧ (((sizeIn Tryd.prog 93 = some 2) ∧ (zeroCells? Tryd.prog 93 = some [.d (.v (.int .u64 0)), .d (.v (.int .u64 0))])) ∧ ((fieldOff Tryd.prog 93 0 = some 0) ∧ ((fieldOff Tryd.prog 93 1 = some 1) ∧ (structPl Tryd.prog 93 = some [(0, 1), (1, 1)])))))))) :=
  ⟨⟨⟨⟨⟨⟨ty_kind_int, ty_size_int⟩, ⟨ty_zero_int, ty_kind_bool⟩⟩, ⟨⟨ty_size_bool, ty_zero_bool⟩, ⟨ty_kind_string, ⟨ty_size_string, ty_zero_string⟩⟩⟩⟩, ⟨⟨⟨ty_kind_bitSet, ty_size_bitSet⟩, ⟨ty_zero_bitSet, ⟨ty_kind_uint8, ty_size_uint8⟩⟩⟩, ⟨⟨ty_zero_uint8, ty_kind_Lint⟩, ⟨ty_size_Lint, ⟨ty_zero_Lint, ty_und_Lint⟩⟩⟩⟩⟩, ⟨⟨⟨⟨ty_el_Lint, ty_kind_Lbool⟩, ⟨ty_size_Lbool, ty_zero_Lbool⟩⟩, ⟨⟨ty_und_Lbool, ty_el_Lbool⟩, ⟨ty_kind_Luint8, ⟨ty_size_Luint8, ty_zero_Luint8⟩⟩⟩⟩, ⟨⟨⟨ty_und_Luint8, ty_el_Luint8⟩, ⟨ty_kind_LRelation, ⟨ty_size_LRelation, ty_zero_LRelation⟩⟩⟩, ⟨⟨ty_und_LRelation, ty_el_LRelation⟩, ⟨ty_kind_LAtom, ⟨ty_size_LAtom, ty_zero_LAtom⟩⟩⟩⟩⟩⟩, ⟨⟨⟨⟨⟨ty_und_LAtom, ty_el_LAtom⟩, ⟨ty_kind_LatomShape, ty_size_LatomShape⟩⟩, ⟨⟨ty_zero_LatomShape, ty_und_LatomShape⟩, ⟨ty_el_LatomShape, ⟨ty_kind_Relation, ty_size_Relation⟩⟩⟩⟩, ⟨⟨⟨ty_zero_Relation, ty_off_Relation_0⟩, ⟨ty_off_Relation_1, ⟨ty_off_Relation_2, ty_pl_Relation⟩⟩⟩, ⟨⟨ty_kind_Atom, ty_size_Atom⟩, ⟨ty_zero_Atom, ⟨ty_off_Atom_0, ty_off_Atom_1⟩⟩⟩⟩⟩, ⟨⟨⟨⟨ty_pl_Atom, ty_kind_Query⟩, ⟨ty_size_Query, ⟨ty_zero_Query, ty_off_Query_0⟩⟩⟩, ⟨⟨ty_off_Query_1, ty_off_Query_2⟩, ⟨ty_pl_Query, ⟨ty_kind_queryShape, ty_size_queryShape⟩⟩⟩⟩, ⟨⟨⟨ty_zero_queryShape, ty_off_queryShape_0⟩, ⟨ty_off_queryShape_1, ⟨ty_pl_queryShape, ty_kind_atomShape⟩⟩⟩, ⟨⟨ty_size_atomShape, ty_zero_atomShape⟩, ⟨ty_off_atomShape_0, ⟨ty_off_atomShape_1, ty_pl_atomShape⟩⟩⟩⟩⟩⟩⟩
end Go.Proofs.YtgoofnhhhlncoabDoor.Ab

