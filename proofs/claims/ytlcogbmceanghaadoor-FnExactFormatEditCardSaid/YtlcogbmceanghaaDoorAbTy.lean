/- What the reckoning asks of the types. Written by gen/abty.py. -/
import Derived.Test.YtlcogbmceanghaaDoorAbTwo
import Derived.Test.YtlcogbmceanghaaDoorProg
open Go Go.Proofs Go.RowKit
namespace Go.Proofs.YtlcogbmceanghaaDoor.Ab
set_option maxRecDepth 100000

theorem ty_kind_int : kindOf Tryd.prog 3 = some none := by kernel_rfl
theorem ty_size_int : sizeIn Tryd.prog 3 = some 1 := by kernel_rfl
theorem ty_zero_int : zeroCells? Tryd.prog 3 = some [.d (.v (.int .i64 0))] := by kernel_rfl
theorem ty_kind_bool : kindOf Tryd.prog 4 = some none := by kernel_rfl
theorem ty_size_bool : sizeIn Tryd.prog 4 = some 1 := by kernel_rfl
theorem ty_zero_bool : zeroCells? Tryd.prog 4 = some [.d (.v (.bool false))] := by kernel_rfl
theorem ty_kind_string : kindOf Tryd.prog 9 = some none := by kernel_rfl
theorem ty_size_string : sizeIn Tryd.prog 9 = some 1 := by kernel_rfl
theorem ty_zero_string : zeroCells? Tryd.prog 9 = some [.d (.v (.string ⟨#[]⟩))] := by kernel_rfl
theorem ty_kind_uint8 : kindOf Tryd.prog 5 = some none := by kernel_rfl
theorem ty_size_uint8 : sizeIn Tryd.prog 5 = some 1 := by kernel_rfl
theorem ty_zero_uint8 : zeroCells? Tryd.prog 5 = some [.d (.v (.int .u8 0))] := by kernel_rfl
theorem ty_kind_Lint : kindOf Tryd.prog 24 = some none := by kernel_rfl
theorem ty_size_Lint : sizeIn Tryd.prog 24 = some 1 := by kernel_rfl
theorem ty_zero_Lint : zeroCells? Tryd.prog 24 = some [.d (.v (.slice none 0 0))] := by kernel_rfl
theorem ty_und_Lint : Tryd.prog.underlying 24 = some (.slice 3) := by kernel_rfl
theorem ty_el_Lint : elOf Tryd.prog 24 = some (3, 1, 8) := by kernel_rfl
theorem ty_kind_Lstring : kindOf Tryd.prog 115 = some none := by kernel_rfl
theorem ty_size_Lstring : sizeIn Tryd.prog 115 = some 1 := by kernel_rfl
theorem ty_zero_Lstring : zeroCells? Tryd.prog 115 = some [.d (.v (.slice none 0 0))] := by kernel_rfl
theorem ty_und_Lstring : Tryd.prog.underlying 115 = some (.slice 9) := by kernel_rfl
theorem ty_el_Lstring : elOf Tryd.prog 115 = some (9, 1, 16) := by kernel_rfl
theorem ty_kind_Lbool : kindOf Tryd.prog 146 = some none := by kernel_rfl
theorem ty_size_Lbool : sizeIn Tryd.prog 146 = some 1 := by kernel_rfl
theorem ty_zero_Lbool : zeroCells? Tryd.prog 146 = some [.d (.v (.slice none 0 0))] := by kernel_rfl
theorem ty_und_Lbool : Tryd.prog.underlying 146 = some (.slice 4) := by kernel_rfl
theorem ty_el_Lbool : elOf Tryd.prog 146 = some (4, 1, 1) := by kernel_rfl
theorem ty_kind_Luint8 : kindOf Tryd.prog 159 = some none := by kernel_rfl
theorem ty_size_Luint8 : sizeIn Tryd.prog 159 = some 1 := by kernel_rfl
theorem ty_zero_Luint8 : zeroCells? Tryd.prog 159 = some [.d (.v (.slice none 0 0))] := by kernel_rfl
theorem ty_und_Luint8 : Tryd.prog.underlying 159 = some (.slice 5) := by kernel_rfl
theorem ty_el_Luint8 : elOf Tryd.prog 159 = some (5, 1, 1) := by kernel_rfl
theorem ty_kind_LRelation : kindOf Tryd.prog 30 = some none := by kernel_rfl
theorem ty_size_LRelation : sizeIn Tryd.prog 30 = some 1 := by kernel_rfl
theorem ty_zero_LRelation : zeroCells? Tryd.prog 30 = some [.d (.v (.slice none 0 0))] := by kernel_rfl
theorem ty_und_LRelation : Tryd.prog.underlying 30 = some (.slice 68) := by kernel_rfl
theorem ty_el_LRelation : elOf Tryd.prog 30 = some (68, 3, 32) := by kernel_rfl
theorem ty_kind_LFact : kindOf Tryd.prog 56 = some none := by kernel_rfl
theorem ty_size_LFact : sizeIn Tryd.prog 56 = some 1 := by kernel_rfl
theorem ty_zero_LFact : zeroCells? Tryd.prog 56 = some [.d (.v (.slice none 0 0))] := by kernel_rfl
theorem ty_und_LFact : Tryd.prog.underlying 56 = some (.slice 60) := by kernel_rfl
theorem ty_el_LFact : elOf Tryd.prog 56 = some (60, 2, 32) := by kernel_rfl
theorem ty_kind_LAtom : kindOf Tryd.prog 32 = some none := by kernel_rfl
theorem ty_size_LAtom : sizeIn Tryd.prog 32 = some 1 := by kernel_rfl
theorem ty_zero_LAtom : zeroCells? Tryd.prog 32 = some [.d (.v (.slice none 0 0))] := by kernel_rfl
theorem ty_und_LAtom : Tryd.prog.underlying 32 = some (.slice 95) := by kernel_rfl
theorem ty_el_LAtom : elOf Tryd.prog 32 = some (95, 2, 32) := by kernel_rfl
theorem ty_kind_LRewritingStep : kindOf Tryd.prog 83 = some none := by kernel_rfl
theorem ty_size_LRewritingStep : sizeIn Tryd.prog 83 = some 1 := by kernel_rfl
theorem ty_zero_LRewritingStep : zeroCells? Tryd.prog 83 = some [.d (.v (.slice none 0 0))] := by kernel_rfl
theorem ty_und_LRewritingStep : Tryd.prog.underlying 83 = some (.slice 139) := by kernel_rfl
theorem ty_el_LRewritingStep : elOf Tryd.prog 83 = some (139, 4, 80) := by kernel_rfl
theorem ty_kind_LDerivationStep : kindOf Tryd.prog 76 = some none := by kernel_rfl
theorem ty_size_LDerivationStep : sizeIn Tryd.prog 76 = some 1 := by kernel_rfl
theorem ty_zero_LDerivationStep : zeroCells? Tryd.prog 76 = some [.d (.v (.slice none 0 0))] := by kernel_rfl
theorem ty_und_LDerivationStep : Tryd.prog.underlying 76 = some (.slice 127) := by kernel_rfl
theorem ty_el_LDerivationStep : elOf Tryd.prog 76 = some (127, 2, 32) := by kernel_rfl
theorem ty_kind_LGroupRange : kindOf Tryd.prog 42 = some none := by kernel_rfl
theorem ty_size_LGroupRange : sizeIn Tryd.prog 42 = some 1 := by kernel_rfl
theorem ty_zero_LGroupRange : zeroCells? Tryd.prog 42 = some [.d (.v (.slice none 0 0))] := by kernel_rfl
theorem ty_und_LGroupRange : Tryd.prog.underlying 42 = some (.slice 105) := by kernel_rfl
theorem ty_el_LGroupRange : elOf Tryd.prog 42 = some (105, 4, 32) := by kernel_rfl
theorem ty_kind_Relation : kindOf Tryd.prog 68 = some (some 3) := by kernel_rfl
theorem ty_size_Relation : sizeIn Tryd.prog 68 = some 3 := by kernel_rfl
theorem ty_zero_Relation : zeroCells? Tryd.prog 68 = some [.d (.v (.string ⟨#[]⟩)), .d (.v (.int .i64 0)), .d (.v (.int .i64 0))] := by kernel_rfl
theorem ty_off_Relation_0 : fieldOff Tryd.prog 68 0 = some 0 := by kernel_rfl
theorem ty_off_Relation_1 : fieldOff Tryd.prog 68 1 = some 1 := by kernel_rfl
theorem ty_off_Relation_2 : fieldOff Tryd.prog 68 2 = some 2 := by kernel_rfl
theorem ty_pl_Relation : structPl Tryd.prog 68 = some [(0, 1), (1, 1), (2, 1)] := by kernel_rfl
theorem ty_kind_Fact : kindOf Tryd.prog 60 = some (some 2) := by kernel_rfl
theorem ty_size_Fact : sizeIn Tryd.prog 60 = some 2 := by kernel_rfl
theorem ty_zero_Fact : zeroCells? Tryd.prog 60 = some [.d (.v (.int .i64 0)), .d (.v (.slice none 0 0))] := by kernel_rfl
theorem ty_off_Fact_0 : fieldOff Tryd.prog 60 0 = some 0 := by kernel_rfl
theorem ty_off_Fact_1 : fieldOff Tryd.prog 60 1 = some 1 := by kernel_rfl
theorem ty_pl_Fact : structPl Tryd.prog 60 = some [(0, 1), (1, 1)] := by kernel_rfl
theorem ty_kind_Database : kindOf Tryd.prog 58 = some (some 2) := by kernel_rfl
theorem ty_size_Database : sizeIn Tryd.prog 58 = some 2 := by kernel_rfl
theorem ty_zero_Database : zeroCells? Tryd.prog 58 = some [.d (.v (.slice none 0 0)), .d (.v (.slice none 0 0))] := by kernel_rfl
theorem ty_off_Database_0 : fieldOff Tryd.prog 58 0 = some 0 := by kernel_rfl
theorem ty_off_Database_1 : fieldOff Tryd.prog 58 1 = some 1 := by kernel_rfl
theorem ty_pl_Database : structPl Tryd.prog 58 = some [(0, 1), (1, 1)] := by kernel_rfl
theorem ty_kind_Atom : kindOf Tryd.prog 95 = some (some 2) := by kernel_rfl
theorem ty_size_Atom : sizeIn Tryd.prog 95 = some 2 := by kernel_rfl
theorem ty_zero_Atom : zeroCells? Tryd.prog 95 = some [.d (.v (.int .i64 0)), .d (.v (.slice none 0 0))] := by kernel_rfl
theorem ty_off_Atom_0 : fieldOff Tryd.prog 95 0 = some 0 := by kernel_rfl
theorem ty_off_Atom_1 : fieldOff Tryd.prog 95 1 = some 1 := by kernel_rfl
theorem ty_pl_Atom : structPl Tryd.prog 95 = some [(0, 1), (1, 1)] := by kernel_rfl
theorem ty_kind_Query : kindOf Tryd.prog 34 = some (some 3) := by kernel_rfl
theorem ty_size_Query : sizeIn Tryd.prog 34 = some 3 := by kernel_rfl
theorem ty_zero_Query : zeroCells? Tryd.prog 34 = some [.d (.v (.int .i64 0)), .d (.v (.slice none 0 0)), .d (.v (.slice none 0 0))] := by kernel_rfl
theorem ty_off_Query_0 : fieldOff Tryd.prog 34 0 = some 0 := by kernel_rfl
theorem ty_off_Query_1 : fieldOff Tryd.prog 34 1 = some 1 := by kernel_rfl
theorem ty_off_Query_2 : fieldOff Tryd.prog 34 2 = some 2 := by kernel_rfl
theorem ty_pl_Query : structPl Tryd.prog 34 = some [(0, 1), (1, 1), (2, 1)] := by kernel_rfl
theorem ty_kind_RewritingStep : kindOf Tryd.prog 139 = some (some 4) := by kernel_rfl
theorem ty_size_RewritingStep : sizeIn Tryd.prog 139 = some 4 := by kernel_rfl
theorem ty_zero_RewritingStep : zeroCells? Tryd.prog 139 = some [.d (.v (.int .i64 0)), .d (.v (.slice none 0 0)), .d (.v (.slice none 0 0)), .d (.v (.slice none 0 0))] := by kernel_rfl
theorem ty_off_RewritingStep_0 : fieldOff Tryd.prog 139 0 = some 0 := by kernel_rfl
theorem ty_off_RewritingStep_1 : fieldOff Tryd.prog 139 1 = some 2 := by kernel_rfl
theorem ty_off_RewritingStep_2 : fieldOff Tryd.prog 139 2 = some 3 := by kernel_rfl
theorem ty_pl_RewritingStep : structPl Tryd.prog 139 = some [(0, 2), (2, 1), (3, 1)] := by kernel_rfl
theorem ty_kind_DerivationStep : kindOf Tryd.prog 127 = some (some 2) := by kernel_rfl
theorem ty_size_DerivationStep : sizeIn Tryd.prog 127 = some 2 := by kernel_rfl
theorem ty_zero_DerivationStep : zeroCells? Tryd.prog 127 = some [.d (.v (.slice none 0 0)), .d (.v (.int .i64 0))] := by kernel_rfl
theorem ty_off_DerivationStep_0 : fieldOff Tryd.prog 127 0 = some 0 := by kernel_rfl
theorem ty_off_DerivationStep_1 : fieldOff Tryd.prog 127 1 = some 1 := by kernel_rfl
theorem ty_pl_DerivationStep : structPl Tryd.prog 127 = some [(0, 1), (1, 1)] := by kernel_rfl
theorem ty_kind_GroupRange : kindOf Tryd.prog 105 = some (some 4) := by kernel_rfl
theorem ty_size_GroupRange : sizeIn Tryd.prog 105 = some 4 := by kernel_rfl
theorem ty_zero_GroupRange : zeroCells? Tryd.prog 105 = some [.d (.v (.int .i64 0)), .d (.v (.int .i64 0)), .d (.v (.int .i64 0)), .d (.v (.bool false))] := by kernel_rfl
theorem ty_off_GroupRange_0 : fieldOff Tryd.prog 105 0 = some 0 := by kernel_rfl
theorem ty_off_GroupRange_1 : fieldOff Tryd.prog 105 1 = some 1 := by kernel_rfl
theorem ty_off_GroupRange_2 : fieldOff Tryd.prog 105 2 = some 2 := by kernel_rfl
theorem ty_off_GroupRange_3 : fieldOff Tryd.prog 105 3 = some 3 := by kernel_rfl
theorem ty_pl_GroupRange : structPl Tryd.prog 105 = some [(0, 1), (1, 1), (2, 1), (3, 1)] := by kernel_rfl
theorem ty_kind_Edit : kindOf Tryd.prog 62 = some (some 3) := by kernel_rfl
theorem ty_size_Edit : sizeIn Tryd.prog 62 = some 3 := by kernel_rfl
theorem ty_zero_Edit : zeroCells? Tryd.prog 62 = some [.d (.v (.int .i64 0)), .d (.v (.int .i64 0)), .d (.v (.slice none 0 0))] := by kernel_rfl
theorem ty_off_Edit_0 : fieldOff Tryd.prog 62 0 = some 0 := by kernel_rfl
theorem ty_off_Edit_1 : fieldOff Tryd.prog 62 1 = some 1 := by kernel_rfl
theorem ty_pl_Edit : structPl Tryd.prog 62 = some [(0, 1), (1, 2)] := by kernel_rfl
theorem ty_und_string : Tryd.prog.underlying 9 = some (.string) := by kernel_rfl
theorem ty_und_int : Tryd.prog.underlying 3 = some (.int .i64) := by kernel_rfl
theorem ty_und_uint8 : Tryd.prog.underlying 5 = some (.int .u8) := by kernel_rfl
theorem ty_und_int32 : Tryd.prog.underlying 21 = some (.int .i32) := by kernel_rfl
theorem ty_mix : Tryd.prog.follows .mixedOrders = true := by kernel_rfl
theorem tyL : (((((((kindOf Tryd.prog 3 = some none) ∧ ((sizeIn Tryd.prog 3 = some 1) ∧ (zeroCells? Tryd.prog 3 = some [.d (.v (.int .i64 0))]))) ∧ (((kindOf Tryd.prog 4 = some none) ∧ (sizeIn Tryd.prog 4 = some 1)) ∧ ((zeroCells? Tryd.prog 4 = some [.d (.v (.bool false))]) ∧ (kindOf Tryd.prog 9 = some none)))) ∧ ((((sizeIn Tryd.prog 9 = some 1) ∧ (zeroCells? Tryd.prog 9 = some [.d (.v (.string ⟨#[]⟩))])) ∧ ((kindOf Tryd.prog 5 = some none) ∧ (sizeIn Tryd.prog 5 = some 1))) ∧ (((zeroCells? Tryd.prog 5 = some [.d (.v (.int .u8 0))]) ∧ (kindOf Tryd.prog 24 = some none)) ∧ ((sizeIn Tryd.prog 24 = some 1) ∧ (zeroCells? Tryd.prog 24 = some [.d (.v (.slice none 0 0))]))))) ∧ (((((Tryd.prog.underlying 24 = some (.slice 3)) ∧ (elOf Tryd.prog 24 = some (3, 1, 8))) ∧ ((kindOf Tryd.prog 115 = some none) ∧ (sizeIn Tryd.prog 115 = some 1))) ∧ (((zeroCells? Tryd.prog 115 = some [.d (.v (.slice none 0 0))]) ∧ (Tryd.prog.underlying 115 = some (.slice 9))) ∧ ((elOf Tryd.prog 115 = some (9, 1, 16)) ∧ (kindOf Tryd.prog 146 = some none)))) ∧ ((((sizeIn Tryd.prog 146 = some 1) ∧ (zeroCells? Tryd.prog 146 = some [.d (.v (.slice none 0 0))])) ∧ ((Tryd.prog.underlying 146 = some (.slice 4)) ∧ (elOf Tryd.prog 146 = some (4, 1, 1)))) ∧ (((kindOf Tryd.prog 159 = some none) ∧ (sizeIn Tryd.prog 159 = some 1)) ∧ ((zeroCells? Tryd.prog 159 = some [.d (.v (.slice none 0 0))]) ∧ (Tryd.prog.underlying 159 = some (.slice 5))))))) ∧ (((((elOf Tryd.prog 159 = some (5, 1, 1)) ∧ ((kindOf Tryd.prog 30 = some none) ∧ (sizeIn Tryd.prog 30 = some 1))) ∧ (((zeroCells? Tryd.prog 30 = some [.d (.v (.slice none 0 0))]) ∧ (Tryd.prog.underlying 30 = some (.slice 68))) ∧ ((elOf Tryd.prog 30 = some (68, 3, 32)) ∧ (kindOf Tryd.prog 56 = some none)))) ∧ ((((sizeIn Tryd.prog 56 = some 1) ∧ (zeroCells? Tryd.prog 56 = some [.d (.v (.slice none 0 0))])) ∧ ((Tryd.prog.underlying 56 = some (.slice 60)) ∧ (elOf Tryd.prog 56 = some (60, 2, 32)))) ∧ (((kindOf Tryd.prog 32 = some none) ∧ (sizeIn Tryd.prog 32 = some 1)) ∧ ((zeroCells? Tryd.prog 32 = some [.d (.v (.slice none 0 0))]) ∧ (Tryd.prog.underlying 32 = some (.slice 95)))))) ∧ (((((elOf Tryd.prog 32 = some (95, 2, 32)) ∧ (kindOf Tryd.prog 83 = some none)) ∧ ((sizeIn Tryd.prog 83 = some 1) ∧ (zeroCells? Tryd.prog 83 = some [.d (.v (.slice none 0 0))]))) ∧ (((Tryd.prog.underlying 83 = some (.slice 139)) ∧ (elOf Tryd.prog 83 = some (139, 4, 80))) ∧ ((kindOf Tryd.prog 76 = some none) ∧ (sizeIn Tryd.prog 76 = some 1)))) ∧ ((((zeroCells? Tryd.prog 76 = some [.d (.v (.slice none 0 0))]) ∧ (Tryd.prog.underlying 76 = some (.slice 127))) ∧ ((elOf Tryd.prog 76 = some (127, 2, 32)) ∧ (kindOf Tryd.prog 42 = some none))) ∧ (((sizeIn Tryd.prog 42 = some 1) ∧ (zeroCells? Tryd.prog 42 = some [.d (.v (.slice none 0 0))])) ∧ ((Tryd.prog.underlying 42 = some (.slice 105)) ∧ (elOf Tryd.prog 42 = some (105, 4, 32)))))))) ∧ ((((((kindOf Tryd.prog 68 = some (some 3)) ∧ ((sizeIn Tryd.prog 68 = some 3) ∧ (zeroCells? Tryd.prog 68 = some [.d (.v (.string ⟨#[]⟩)), .d (.v (.int .i64 0)), .d (.v (.int .i64 0))]))) ∧ (((fieldOff Tryd.prog 68 0 = some 0) ∧ (fieldOff Tryd.prog 68 1 = some 1)) ∧ ((fieldOff Tryd.prog 68 2 = some 2) ∧ (structPl Tryd.prog 68 = some [(0, 1), (1, 1), (2, 1)])))) ∧ ((((kindOf Tryd.prog 60 = some (some 2)) ∧ (sizeIn Tryd.prog 60 = some 2)) ∧ ((zeroCells? Tryd.prog 60 = some [.d (.v (.int .i64 0)), .d (.v (.slice none 0 0))]) ∧ (fieldOff Tryd.prog 60 0 = some 0))) ∧ (((fieldOff Tryd.prog 60 1 = some 1) ∧ (structPl Tryd.prog 60 = some [(0, 1), (1, 1)])) ∧ ((kindOf Tryd.prog 58 = some (some 2)) ∧ (sizeIn Tryd.prog 58 = some 2))))) ∧ (((((zeroCells? Tryd.prog 58 = some [.d (.v (.slice none 0 0)), .d (.v (.slice none 0 0))]) ∧ (fieldOff Tryd.prog 58 0 = some 0)) ∧ ((fieldOff Tryd.prog 58 1 = some 1) ∧ (structPl Tryd.prog 58 = some [(0, 1), (1, 1)]))) ∧ (((kindOf Tryd.prog 95 = some (some 2)) ∧ (sizeIn Tryd.prog 95 = some 2)) ∧ ((zeroCells? Tryd.prog 95 = some [.d (.v (.int .i64 0)), .d (.v (.slice none 0 0))]) ∧ (fieldOff Tryd.prog 95 0 = some 0)))) ∧ ((((fieldOff Tryd.prog 95 1 = some 1) ∧ (structPl Tryd.prog 95 = some [(0, 1), (1, 1)])) ∧ ((kindOf Tryd.prog 34 = some (some 3)) ∧ (sizeIn Tryd.prog 34 = some 3))) ∧ (((zeroCells? Tryd.prog 34 = some [.d (.v (.int .i64 0)), .d (.v (.slice none 0 0)), .d (.v (.slice none 0 0))]) ∧ (fieldOff Tryd.prog 34 0 = some 0)) ∧ ((fieldOff Tryd.prog 34 1 = some 1) ∧ (fieldOff Tryd.prog 34 2 = some 2)))))) ∧ ((((((structPl Tryd.prog 34 = some [(0, 1), (1, 1), (2, 1)]) ∧ (kindOf Tryd.prog 139 = some (some 4))) ∧ ((sizeIn Tryd.prog 139 = some 4) ∧ (zeroCells? Tryd.prog 139 = some [.d (.v (.int .i64 0)), .d (.v (.slice none 0 0)), .d (.v (.slice none 0 0)), .d (.v (.slice none 0 0))]))) ∧ (((fieldOff Tryd.prog 139 0 = some 0) ∧ (fieldOff Tryd.prog 139 1 = some 2)) ∧ ((fieldOff Tryd.prog 139 2 = some 3) ∧ (structPl Tryd.prog 139 = some [(0, 2), (2, 1), (3, 1)])))) ∧ ((((kindOf Tryd.prog 127 = some (some 2)) ∧ (sizeIn Tryd.prog 127 = some 2)) ∧ ((zeroCells? Tryd.prog 127 = some [.d (.v (.slice none 0 0)), .d (.v (.int .i64 0))]) ∧ (fieldOff Tryd.prog 127 0 = some 0))) ∧ (((fieldOff Tryd.prog 127 1 = some 1) ∧ (structPl Tryd.prog 127 = some [(0, 1), (1, 1)])) ∧ ((kindOf Tryd.prog 105 = some (some 4)) ∧ (sizeIn Tryd.prog 105 = some 4))))) ∧ (((((zeroCells? Tryd.prog 105 = some [.d (.v (.int .i64 0)), .d (.v (.int .i64 0)), .d (.v (.int .i64 0)), .d (.v (.bool false))]) ∧ (fieldOff Tryd.prog 105 0 = some 0)) ∧ ((fieldOff Tryd.prog 105 1 = some 1) ∧ (fieldOff Tryd.prog 105 2 = some 2))) ∧ (((fieldOff Tryd.prog 105 3 = some 3) ∧ (structPl Tryd.prog 105 = some [(0, 1), (1, 1), (2, 1), (3, 1)])) ∧ ((kindOf Tryd.prog 62 = some (some 3)) ∧ (sizeIn Tryd.prog 62 = some 3)))) ∧ ((((zeroCells? Tryd.prog 62 = some [.d (.v (.int .i64 0)), .d (.v (.int .i64 0)), .d (.v (.slice none 0 0))]) ∧ (fieldOff Tryd.prog 62 0 = some 0)) ∧ ((fieldOff Tryd.prog 62 1 = some 1) ∧ (structPl Tryd.prog 62 = some [(0, 1), (1, 2)]))) ∧ (((Tryd.prog.underlying 9 = some (.string)) ∧ (Tryd.prog.underlying 3 = some (.int .i64))) ∧ ((Tryd.prog.underlying 5 = some (.int .u8)) ∧ (Tryd.prog.underlying 21 = some (.int .i32))))))))) :=
  ⟨⟨⟨⟨⟨⟨ty_kind_int, ⟨ty_size_int, ty_zero_int⟩⟩, ⟨⟨ty_kind_bool, ty_size_bool⟩, ⟨ty_zero_bool, ty_kind_string⟩⟩⟩, ⟨⟨⟨ty_size_string, ty_zero_string⟩, ⟨ty_kind_uint8, ty_size_uint8⟩⟩, ⟨⟨ty_zero_uint8, ty_kind_Lint⟩, ⟨ty_size_Lint, ty_zero_Lint⟩⟩⟩⟩, ⟨⟨⟨⟨ty_und_Lint, ty_el_Lint⟩, ⟨ty_kind_Lstring, ty_size_Lstring⟩⟩, ⟨⟨ty_zero_Lstring, ty_und_Lstring⟩, ⟨ty_el_Lstring, ty_kind_Lbool⟩⟩⟩, ⟨⟨⟨ty_size_Lbool, ty_zero_Lbool⟩, ⟨ty_und_Lbool, ty_el_Lbool⟩⟩, ⟨⟨ty_kind_Luint8, ty_size_Luint8⟩, ⟨ty_zero_Luint8, ty_und_Luint8⟩⟩⟩⟩⟩, ⟨⟨⟨⟨ty_el_Luint8, ⟨ty_kind_LRelation, ty_size_LRelation⟩⟩, ⟨⟨ty_zero_LRelation, ty_und_LRelation⟩, ⟨ty_el_LRelation, ty_kind_LFact⟩⟩⟩, ⟨⟨⟨ty_size_LFact, ty_zero_LFact⟩, ⟨ty_und_LFact, ty_el_LFact⟩⟩, ⟨⟨ty_kind_LAtom, ty_size_LAtom⟩, ⟨ty_zero_LAtom, ty_und_LAtom⟩⟩⟩⟩, ⟨⟨⟨⟨ty_el_LAtom, ty_kind_LRewritingStep⟩, ⟨ty_size_LRewritingStep, ty_zero_LRewritingStep⟩⟩, ⟨⟨ty_und_LRewritingStep, ty_el_LRewritingStep⟩, ⟨ty_kind_LDerivationStep, ty_size_LDerivationStep⟩⟩⟩, ⟨⟨⟨ty_zero_LDerivationStep, ty_und_LDerivationStep⟩, ⟨ty_el_LDerivationStep, ty_kind_LGroupRange⟩⟩, ⟨⟨ty_size_LGroupRange, ty_zero_LGroupRange⟩, ⟨ty_und_LGroupRange, ty_el_LGroupRange⟩⟩⟩⟩⟩⟩, ⟨⟨⟨⟨⟨ty_kind_Relation, ⟨ty_size_Relation, ty_zero_Relation⟩⟩, ⟨⟨ty_off_Relation_0, ty_off_Relation_1⟩, ⟨ty_off_Relation_2, ty_pl_Relation⟩⟩⟩, ⟨⟨⟨ty_kind_Fact, ty_size_Fact⟩, ⟨ty_zero_Fact, ty_off_Fact_0⟩⟩, ⟨⟨ty_off_Fact_1, ty_pl_Fact⟩, ⟨ty_kind_Database, ty_size_Database⟩⟩⟩⟩, ⟨⟨⟨⟨ty_zero_Database, ty_off_Database_0⟩, ⟨ty_off_Database_1, ty_pl_Database⟩⟩, ⟨⟨ty_kind_Atom, ty_size_Atom⟩, ⟨ty_zero_Atom, ty_off_Atom_0⟩⟩⟩, ⟨⟨⟨ty_off_Atom_1, ty_pl_Atom⟩, ⟨ty_kind_Query, ty_size_Query⟩⟩, ⟨⟨ty_zero_Query, ty_off_Query_0⟩, ⟨ty_off_Query_1, ty_off_Query_2⟩⟩⟩⟩⟩, ⟨⟨⟨⟨⟨ty_pl_Query, ty_kind_RewritingStep⟩, ⟨ty_size_RewritingStep, ty_zero_RewritingStep⟩⟩, ⟨⟨ty_off_RewritingStep_0, ty_off_RewritingStep_1⟩, ⟨ty_off_RewritingStep_2, ty_pl_RewritingStep⟩⟩⟩, ⟨⟨⟨ty_kind_DerivationStep, ty_size_DerivationStep⟩, ⟨ty_zero_DerivationStep, ty_off_DerivationStep_0⟩⟩, ⟨⟨ty_off_DerivationStep_1, ty_pl_DerivationStep⟩, ⟨ty_kind_GroupRange, ty_size_GroupRange⟩⟩⟩⟩, ⟨⟨⟨⟨ty_zero_GroupRange, ty_off_GroupRange_0⟩, ⟨ty_off_GroupRange_1, ty_off_GroupRange_2⟩⟩, ⟨⟨ty_off_GroupRange_3, ty_pl_GroupRange⟩, ⟨ty_kind_Edit, ty_size_Edit⟩⟩⟩, ⟨⟨⟨ty_zero_Edit, ty_off_Edit_0⟩, ⟨ty_off_Edit_1, ty_pl_Edit⟩⟩, ⟨⟨ty_und_string, ty_und_int⟩, ⟨ty_und_uint8, ty_und_int32⟩⟩⟩⟩⟩⟩⟩
end Go.Proofs.YtlcogbmceanghaaDoor.Ab

