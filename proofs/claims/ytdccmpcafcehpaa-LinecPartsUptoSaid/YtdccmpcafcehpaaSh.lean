/-
  The plain readings of the functions of this seat, by program; each is tied to the loaded function.
-/
import Derived.Test.YtdccmpcafcehpaaEvErr
import Derived.Test.YtdccmpcafcehpaaChecked
namespace Go.Proofs.Ytdccmpcafcehpaa
set_option maxRecDepth 100000
set_option linter.unusedVariables false

def G0 : Ctx := { ty := [(3, .int .i64), (4, .bool), (5, .int .u8), (21, .int .i32), (22, .int .u16), (24, .sl (.st (.pair (.int .i32) (.pair (.int .i32) (.int .u8))))), (26, .sl (.arr 3 (.int .i64))), (29, .err 52 48), (32, .st (.pair (.int .i32) (.pair (.int .i32) (.int .u8)))), (33, .arr 3 (.int .i64)), (35, .sl (.int .i32)), (36, .sl (.int .u8)), (38, .int .u8), (43, .sl (.st (.pair (.int .i32) (.pair (.int .i32) (.int .u8))))), (46, .st (.pair (.int .i32) (.pair (.int .i32) (.int .u8))))], sls := [(24, ⟨32, .st (.pair (.int .i32) (.pair (.int .i32) (.int .u8))), 11728124029610⟩), (26, ⟨33, .arr 3 (.int .i64), 5864062014805⟩), (35, ⟨21, .int .i32, 35184372088832⟩), (36, ⟨38, .int .u8, 140737488355328⟩), (43, ⟨46, .st (.pair (.int .i32) (.pair (.int .i32) (.int .u8))), 11728124029610⟩)], eqs := [], enos := [48] }
theorem mixed : Try.prog.follows .mixedOrders = true := by kernel_rfl
theorem ctx0 : CtxOk Try.prog G0 := ctx_ok (by kernel_rfl)
theorem no_calls {Λ : List Nat} : ∀ f fa, olook f ([] : List (Nat × Callee)) = some fa → CalleeOk Try.prog f fa ∧ (fa.isPlain = false → inList f Λ = true) := fun _ _ h => by cases h
theorem cons_calls {Λ : List Nat} {k : Nat} {fb : Callee} {l : List (Nat × Callee)} (h : CalleeOk Try.prog k fb) (hi : fb.isPlain = false → inList k Λ = true) (hl : ∀ f fa, olook f l = some fa → CalleeOk Try.prog f fa ∧ (fa.isPlain = false → inList f Λ = true)) : ∀ f fa, olook f ((k, fb) :: l) = some fa → CalleeOk Try.prog f fa ∧ (fa.isPlain = false → inList f Λ = true) := by
  intro f fa hf
  rw [olook_cons] at hf
  split at hf
  · rename_i e; subst e; cases hf; exact ⟨h, hi⟩
  · exact hl f fa hf

/-! ### boustrophedon/linec.rows -/
noncomputable def linec_rows_T : Tr (List (Int × Int × Int)) :=
  .pure ([(0, 8, 3), (9, 9, 14), (10, 10, 7), (11, 12, 5), (13, 13, 6), (14, 31, 3), (32, 32, 9), (33, 33, 23), (34, 34, 22), (35, 35, 1), (36, 36, 29), (37, 37, 28), (38, 38, 1), (39, 39, 22), (40, 40, 21), (41, 41, 20), (42, 42, 1), (43, 43, 29), (44, 44, 25), (45, 45, 17), (46, 46, 25), (47, 47, 26), (48, 57, 27), (58, 59, 25), (60, 62, 1), (63, 63, 23), (64, 90, 1), (91, 91, 21), (92, 92, 29), (93, 93, 20), (94, 122, 1), (123, 123, 21), (124, 124, 14), (125, 125, 19), (126, 126, 1), (127, 132, 3), (133, 133, 8), (134, 159, 3), (160, 160, 12), (161, 161, 21), (162, 162, 28), (163, 165, 29), (166, 166, 1), (167, 168, 39), (169, 169, 1), (170, 170, 39), (171, 171, 22), (172, 172, 1), (173, 173, 14), (174, 175, 1), (176, 176, 28), (177, 177, 29), (178, 179, 39), (180, 180, 15), (181, 181, 1), (182, 186, 39), (187, 187, 22), (188, 190, 39), (191, 191, 21), (192, 214, 1), (215, 215, 39), (216, 246, 1), (247, 247, 39), (248, 710, 1), (712, 712, 15), (716, 716, 15), (735, 735, 15), (768, 846, 3), (847, 847, 12), (848, 859, 3), (860, 866, 12), (867, 879, 3), (880, 1154, 1), (1155, 1161, 3), (1162, 1416, 1), (1417, 1417, 25), (1418, 1418, 14), (1425, 1469, 3), (1470, 1470, 14), (1471, 1471, 3), (1473, 1474, 3), (1476, 1477, 3), (1478, 1478, 23), (1479, 1479, 3), (1488, 1522, 2), (1536, 1544, 1), (1545, 1547, 28), (1548, 1549, 25), (1550, 1551, 1), (1552, 1562, 3), (1563, 1563, 23), (1564, 1564, 3), (1565, 1567, 23), (1568, 1610, 1), (1611, 1631, 3), (1632, 1641, 27), (1642, 1642, 28), (1643, 1644, 27), (1645, 1647, 1), (1648, 1648, 3), (1649, 1747, 1), (1748, 1748, 23), (1749, 1749, 1), (1750, 1756, 3), (1757, 1757, 27), (1758, 1758, 1), (1759, 1764, 3), (1765, 1766, 1), (1767, 1768, 3), (1769, 1769, 1), (1770, 1773, 3), (1774, 1775, 1), (1776, 1785, 27), (1786, 1808, 1), (1809, 1809, 3), (1810, 1839, 1), (1840, 1866, 3), (1867, 1957, 1), (1958, 1968, 3), (2304, 2307, 3), (2308, 2361, 1), (2362, 2364, 3), (2365, 2365, 1), (2366, 2383, 3), (2392, 2401, 1), (2404, 2405, 14), (2406, 2415, 27), (3585, 3632, 40), (3633, 3633, 40), (3634, 3635, 40), (3636, 3642, 40), (3647, 3647, 29), (3648, 3662, 40), (3664, 3673, 27), (3674, 3675, 14), (4352, 4447, 34), (4448, 4519, 35), (4520, 4607, 36), (5760, 5760, 14), (8192, 8198, 14), (8199, 8199, 12), (8200, 8202, 14), (8203, 8203, 10), (8204, 8204, 3), (8205, 8205, 4), (8206, 8207, 3), (8208, 8208, 14), (8209, 8209, 12), (8210, 8211, 14), (8212, 8212, 16), (8213, 8214, 39), (8216, 8217, 22), (8218, 8218, 21), (8219, 8221, 22), (8222, 8222, 21), (8223, 8223, 22), (8224, 8225, 39), (8228, 8230, 24), (8231, 8231, 14), (8232, 8233, 5), (8234, 8238, 3), (8239, 8239, 12), (8240, 8247, 28), (8248, 8248, 1), (8249, 8250, 22), (8251, 8251, 39), (8252, 8253, 18), (8260, 8260, 25), (8261, 8261, 21), (8262, 8262, 19), (8263, 8265, 18), (8278, 8278, 14), (8280, 8283, 14), (8285, 8287, 14), (8288, 8288, 11), (8294, 8303, 3), (8317, 8317, 21), (8318, 8318, 19), (8333, 8333, 21), (8334, 8334, 19), (8352, 8358, 29), (8359, 8359, 28), (8360, 8373, 29), (8374, 8374, 28), (8375, 8399, 29), (8400, 8432, 3), (8451, 8451, 28), (8457, 8457, 28), (8470, 8470, 29), (8592, 8601, 39), (8722, 8723, 29), (8968, 8968, 21), (8969, 8969, 19), (8970, 8970, 21), (8971, 8971, 19), (8986, 8987, 30), (9001, 9001, 21), (9002, 9002, 19), (9200, 9203, 30), (9312, 9470, 39), (9472, 9547, 39), (9728, 9731, 30), (9748, 9749, 30), (9757, 9757, 31), (9785, 9787, 30), (9977, 9977, 31), (9994, 9997, 31), (10082, 10083, 23), (10084, 10084, 30), (10214, 10214, 21), (10215, 10215, 19), (10216, 10216, 21), (10217, 10217, 19), (10218, 10218, 21), (10219, 10219, 19), (10627, 10627, 21), (10628, 10628, 19), (11904, 12287, 30), (12288, 12288, 14), (12289, 12290, 19), (12291, 12292, 30), (12293, 12293, 18), (12294, 12295, 30), (12296, 12296, 21), (12297, 12297, 19), (12298, 12298, 21), (12299, 12299, 19), (12300, 12300, 21), (12301, 12301, 19), (12302, 12302, 21), (12303, 12303, 19), (12304, 12304, 21), (12305, 12305, 19), (12306, 12307, 30), (12308, 12308, 21), (12309, 12309, 19), (12310, 12310, 21), (12311, 12311, 19), (12316, 12316, 18), (12317, 12317, 21), (12318, 12319, 19), (12320, 12329, 30), (12330, 12335, 3), (12336, 12346, 30), (12347, 12348, 18), (12353, 12353, 42), (12354, 12354, 30), (12355, 12355, 42), (12356, 12356, 30), (12357, 12357, 42), (12358, 12358, 30), (12359, 12359, 42), (12360, 12360, 30), (12361, 12361, 42), (12362, 12386, 30), (12387, 12387, 42), (12388, 12418, 30), (12419, 12419, 42), (12420, 12420, 30), (12421, 12421, 42), (12422, 12422, 30), (12423, 12423, 42), (12424, 12440, 30), (12441, 12442, 3), (12443, 12446, 18), (12447, 12447, 30), (12448, 12448, 18), (12449, 12449, 42), (12450, 12482, 30), (12483, 12483, 42), (12484, 12538, 30), (12539, 12539, 18), (12540, 12540, 42), (12541, 12542, 18), (12543, 12543, 30), (12549, 19903, 30), (19968, 40980, 30), (40981, 40981, 18), (40982, 42191, 30), (55296, 57343, 41), (63744, 64255, 30), (64285, 64285, 2), (64286, 64286, 3), (64287, 64296, 2), (64297, 64297, 1), (64298, 64335, 2), (64336, 65019, 1), (65020, 65020, 28), (65024, 65039, 3), (65040, 65040, 25), (65043, 65044, 25), (65056, 65071, 3), (65136, 65276, 1), (65279, 65279, 11), (65281, 65281, 23), (65282, 65283, 30), (65284, 65284, 29), (65285, 65285, 28), (65288, 65288, 21), (65289, 65289, 19), (65292, 65292, 19), (65294, 65294, 19), (65296, 65305, 30), (65306, 65307, 18), (65311, 65311, 23), (65313, 65338, 30), (65339, 65339, 21), (65341, 65341, 19), (65345, 65370, 30), (65371, 65371, 21), (65373, 65373, 19), (65377, 65377, 19), (65378, 65378, 21), (65379, 65380, 19), (65532, 65532, 13), (65533, 65533, 39), (127462, 127487, 33), (127744, 127876, 30), (127877, 127877, 31), (127878, 127994, 30), (127995, 127999, 32), (128000, 128065, 30), (128066, 128067, 31), (128068, 128069, 30), (128070, 128080, 31), (128081, 128101, 30), (128102, 128120, 31), (128121, 129791, 30), (131072, 262141, 30), (917505, 917631, 3), (917760, 917999, 3)])
noncomputable def linec_rows_F : Option (List (Int × Int × Int)) := (linec_rows_T).run
def linec_rows_L : List (Nat × LoopAnn) := []
noncomputable def linec_rows_C : List (Nat × Callee) := []
noncomputable def linec_rows_fun : Fun := ⟨[], [.row 46 (.st (.pair (.int .i32) (.pair (.int .i32) (.int .u8))))], fun _ => linec_rows_F⟩
theorem linec_rows_ev (x : Tys.I []) : evFun G0 (fun f => olook f linec_rows_C) ⟨[], [], [], [], []⟩ (fun i => olook i linec_rows_L) Try.f13 [] [.row 46 (.st (.pair (.int .i32) (.pair (.int .i32) (.int .u8))))] x = linec_rows_T := by kernel_rfl
theorem linec_rows_ok : FunOk Try.prog 13 linec_rows_fun := evFun_ok mixed ctx0 (no_calls) Try.func13 (by kernel_rfl) _ (fun x => congrArg Tr.run (linec_rows_ev x)) (by kernel_rfl) (by kernel_rfl)
/-! ### boustrophedon/linec.Table -/
noncomputable def linec_Table_L4 (rs2 : List (Int × Int × Int)) (t9 : List (Int × Int × Int)) (t10 : Int) (t11 : Int) : Tr (Lap ((List (Int × Int × Int)) × (List (Int × Int × Int)) × Int × Int) (List (Int × Int × Int))) :=
  .br (decide (t11 < t10)) (
    .bnd (idx t9 t11) fun x_3 =>
    .bnd (idx ([x_3]) 0) fun x_4 =>
    .bnd (idx ([x_3]) 0) fun x_5 =>
    .bnd (idx ([x_3]) 0) fun x_6 =>
    .bnd (idx rs2 t11) fun x_7 =>
    .pure (.next (rs2.set (Int.toNat t11) (x_4.1, x_5.2.1, x_6.2.2), t9, t10, IntKind.i64.wrap (t11 + 1)))) (
    .pure (.done rs2))
noncomputable def linec_Table_T : Tr (List (Int × Int × Int)) :=
  .bnd linec_rows_F fun c_1 =>
  .bnd (mk 11728124029610 (0, (0, 0)) (c_1.length : Int)) fun r_2 =>
  .bnd (loopW (fun s => (linec_Table_L4 s.1 s.2.1 s.2.2.1 s.2.2.2).run) (r_2, c_1, (c_1.length : Int), 0)) fun l_8 =>
  .pure l_8
noncomputable def linec_Table_F : Option (List (Int × Int × Int)) := (linec_Table_T).run
def linec_Table_L : List (Nat × LoopAnn) := [(4, { head := [.srow 2 1000002 32 true (.st (.pair (.int .i32) (.pair (.int .i32) (.int .u8)))), .srow 9 1000009 46 true (.st (.pair (.int .i32) (.pair (.int .i32) (.int .u8)))), .sv 10 true (.int .i64), .sv 11 true (.int .i64)], xid := 0, out := [.srow 2 1000002 32 true (.st (.pair (.int .i32) (.pair (.int .i32) (.int .u8))))], hasRet := false, res := [] })]
noncomputable def linec_Table_C : List (Nat × Callee) := [(13, .plain linec_rows_fun)]
noncomputable def linec_Table_fun : Fun := ⟨[], [.row 32 (.st (.pair (.int .i32) (.pair (.int .i32) (.int .u8))))], fun _ => linec_Table_F⟩
theorem linec_Table_ev (x : Tys.I []) : evFun G0 (fun f => olook f linec_Table_C) ⟨[], [], [], [], []⟩ (fun i => olook i linec_Table_L) Try.f8 [] [.row 32 (.st (.pair (.int .i32) (.pair (.int .i32) (.int .u8))))] x = linec_Table_T := by kernel_rfl
theorem linec_Table_ok : FunOk Try.prog 8 linec_Table_fun := evFun_ok mixed ctx0 (cons_calls (fb := .plain linec_rows_fun) linec_rows_ok (fun h => by cases h) (no_calls)) Try.func8 (by kernel_rfl) _ (fun x => congrArg Tr.run (linec_Table_ev x)) (by kernel_rfl) (by kernel_rfl)
/-! ### boustrophedon/linec.syllable -/
noncomputable def linec_syllable_T (r0 : Int) : Tr Int :=
  .br (((IntKind.i32.wrap (r0 - 44032)).tmod 28) == 0) (
    .pure 37) (
    .pure 38)
noncomputable def linec_syllable_F (r0 : Int) : Option Int := (linec_syllable_T r0).run
def linec_syllable_L : List (Nat × LoopAnn) := []
noncomputable def linec_syllable_C : List (Nat × Callee) := []
noncomputable def linec_syllable_fun : Fun := ⟨[.int .i32], [.v (.int .u8)], fun x => linec_syllable_F x.1⟩
theorem linec_syllable_ev (x : Tys.I [.int .i32]) : evFun G0 (fun f => olook f linec_syllable_C) ⟨[], [], [], [], []⟩ (fun i => olook i linec_syllable_L) Try.f15 [.int .i32] [.v (.int .u8)] x = linec_syllable_T x.1 := by kernel_rfl
theorem linec_syllable_ok : FunOk Try.prog 15 linec_syllable_fun := evFun_ok mixed ctx0 (no_calls) Try.func15 (by kernel_rfl) _ (fun x => congrArg Tr.run (linec_syllable_ev x)) (by kernel_rfl) (by kernel_rfl)
/-! ### boustrophedon/ranges.Find -/
noncomputable def ranges_Find_L2 (rs0 : List (Int × Int × Int)) (r1 : Int) (other2 : Int) (from7 : Int) (to8 : Int) : Tr (Lap ((List (Int × Int × Int)) × Int × Int × Int × Int) (Sum Int Int)) :=
  .br (decide (from7 < to8)) (
    .bnd (idx rs0 (IntKind.i64.wrap ((IntKind.i64.wrap (from7 + to8)).tdiv 2))) fun x_1 =>
    .br (decide (r1 < x_1.1)) (
      .pure (.next (rs0, r1, other2, from7, IntKind.i64.wrap ((IntKind.i64.wrap (from7 + to8)).tdiv 2)))) (
      .bnd (idx rs0 (IntKind.i64.wrap ((IntKind.i64.wrap (from7 + to8)).tdiv 2))) fun x_2 =>
      .br (decide (r1 > x_2.2.1)) (
        .pure (.next (rs0, r1, other2, IntKind.i64.wrap ((IntKind.i64.wrap ((IntKind.i64.wrap (from7 + to8)).tdiv 2)) + 1), to8))) (
        .bnd (idx rs0 (IntKind.i64.wrap ((IntKind.i64.wrap (from7 + to8)).tdiv 2))) fun x_3 =>
        .pure (.done (.inr x_3.2.2))))) (
    .pure (.done (.inl other2)))
noncomputable def ranges_Find_T (rs0 : List (Int × Int × Int)) (r1 : Int) (other2 : Int) : Tr Int :=
  .alt (loopW (fun s => (ranges_Find_L2 s.1 s.2.1 s.2.2.1 s.2.2.2.1 s.2.2.2.2).run) (rs0, r1, other2, 0, (rs0.length : Int))) (fun l_4 =>
    .pure l_4) (fun l_5 =>
    .pure l_5)
noncomputable def ranges_Find_F (rs0 : List (Int × Int × Int)) (r1 : Int) (other2 : Int) : Option Int := (ranges_Find_T rs0 r1 other2).run
def ranges_Find_L : List (Nat × LoopAnn) := [(2, { head := [.sv 0 false (.sl (.st (.pair (.int .i32) (.pair (.int .i32) (.int .u8))))), .sv 1 false (.int .i32), .sv 2 false (.int .u8), .sv 7 true (.int .i64), .sv 8 true (.int .i64)], xid := 0, out := [.sv 2 false (.int .u8)], hasRet := true, res := [.sv 6 false (.int .u8)] })]
noncomputable def ranges_Find_C : List (Nat × Callee) := []
noncomputable def ranges_Find_fun : Fun := ⟨[.sl (.st (.pair (.int .i32) (.pair (.int .i32) (.int .u8)))), .int .i32, .int .u8], [.v (.int .u8)], fun x => ranges_Find_F x.1 x.2.1 x.2.2.1⟩
theorem ranges_Find_ev (x : Tys.I [.sl (.st (.pair (.int .i32) (.pair (.int .i32) (.int .u8)))), .int .i32, .int .u8]) : evFun G0 (fun f => olook f ranges_Find_C) ⟨[], [], [], [], []⟩ (fun i => olook i ranges_Find_L) Try.f16 [.sl (.st (.pair (.int .i32) (.pair (.int .i32) (.int .u8)))), .int .i32, .int .u8] [.v (.int .u8)] x = ranges_Find_T x.1 x.2.1 x.2.2.1 := by kernel_rfl
theorem ranges_Find_ok : FunOk Try.prog 16 ranges_Find_fun := evFun_ok mixed ctx0 (no_calls) Try.func16 (by kernel_rfl) _ (fun x => congrArg Tr.run (ranges_Find_ev x)) (by kernel_rfl) (by kernel_rfl)
/-! ### boustrophedon/linec.Of -/
noncomputable def linec_Of_L4 (table3 : List (Int × Int × Int)) (cs4 : List Int) (t11 : List Int) (t12 : Int) (t13 : Int) : Tr (Lap ((List (Int × Int × Int)) × List Int × List Int × Int × Int) (List Int)) :=
  .br (decide (t13 < t12)) (
    .bnd (idx t11 t13) fun x_3 =>
    .br (decide (44032 ≤ x_3)) (
      .br (decide (x_3 ≤ 55203)) (
        .bnd (linec_syllable_F x_3) fun c_4 =>
        .bnd (idx cs4 t13) fun x_5 =>
        .pure (.next (table3, cs4.set (Int.toNat t13) c_4, t11, t12, IntKind.i64.wrap (t13 + 1)))) (
        .bnd (ranges_Find_F table3 x_3 0) fun c_6 =>
        .bnd (idx cs4 t13) fun x_7 =>
        .pure (.next (table3, cs4.set (Int.toNat t13) c_6, t11, t12, IntKind.i64.wrap (t13 + 1))))) (
      .bnd (ranges_Find_F table3 x_3 0) fun c_8 =>
      .bnd (idx cs4 t13) fun x_9 =>
      .pure (.next (table3, cs4.set (Int.toNat t13) c_8, t11, t12, IntKind.i64.wrap (t13 + 1))))) (
    .pure (.done cs4))
noncomputable def linec_Of_T (rs0 : List Int) : Tr (List Int) :=
  .bnd linec_Table_F fun c_1 =>
  .bnd (mk 140737488355328 0 (rs0.length : Int)) fun r_2 =>
  .bnd (loopW (fun s => (linec_Of_L4 s.1 s.2.1 s.2.2.1 s.2.2.2.1 s.2.2.2.2).run) (c_1, r_2, rs0, (rs0.length : Int), 0)) fun l_10 =>
  .pure l_10
noncomputable def linec_Of_F (rs0 : List Int) : Option (List Int) := (linec_Of_T rs0).run
def linec_Of_L : List (Nat × LoopAnn) := [(4, { head := [.srow 3 1000003 32 true (.st (.pair (.int .i32) (.pair (.int .i32) (.int .u8)))), .srow 4 1000004 38 true (.int .u8), .sv 11 false (.sl (.int .i32)), .sv 12 true (.int .i64), .sv 13 true (.int .i64)], xid := 0, out := [.srow 4 1000004 38 true (.int .u8)], hasRet := false, res := [] })]
noncomputable def linec_Of_C : List (Nat × Callee) := [(8, .plain linec_Table_fun), (15, .plain linec_syllable_fun), (16, .plain ranges_Find_fun)]
noncomputable def linec_Of_fun : Fun := ⟨[.sl (.int .i32)], [.row 38 (.int .u8)], fun x => linec_Of_F x.1⟩
theorem linec_Of_ev (x : Tys.I [.sl (.int .i32)]) : evFun G0 (fun f => olook f linec_Of_C) ⟨[], [], [], [], []⟩ (fun i => olook i linec_Of_L) Try.f11 [.sl (.int .i32)] [.row 38 (.int .u8)] x = linec_Of_T x.1 := by kernel_rfl
theorem linec_Of_ok : FunOk Try.prog 11 linec_Of_fun := evFun_ok mixed ctx0 (cons_calls (fb := .plain linec_Table_fun) linec_Table_ok (fun h => by cases h) (cons_calls (fb := .plain linec_syllable_fun) linec_syllable_ok (fun h => by cases h) (cons_calls (fb := .plain ranges_Find_fun) ranges_Find_ok (fun h => by cases h) (no_calls)))) Try.func11 (by kernel_rfl) _ (fun x => congrArg Tr.run (linec_Of_ev x)) (by kernel_rfl) (by kernel_rfl)
/-! ### boustrophedon/boustrophedonlaw06.awake -/
noncomputable def law06_awake_T : Tr Bool :=
  .bnd (linec_Of_F ([97, 32, 40, 44032, 44033, 12353, 3585])) fun c_1 =>
  .br ((c_1.length : Int) == 7) (
    .bnd (idx c_1 0) fun x_2 =>
    .br (x_2 == 1) (
      .bnd (idx c_1 1) fun x_3 =>
      .br (x_3 == 9) (
        .bnd (idx c_1 2) fun x_4 =>
        .br (x_4 == 21) (
          .bnd (idx c_1 3) fun x_5 =>
          .br (x_5 == 37) (
            .bnd (idx c_1 4) fun x_6 =>
            .br (x_6 == 38) (
              .bnd (idx c_1 5) fun x_7 =>
              .br (x_7 == 42) (
                .bnd (idx c_1 6) fun x_8 =>
                .pure (x_8 == 40)) (
                .pure false)) (
              .pure false)) (
            .pure false)) (
          .pure false)) (
        .pure false)) (
      .pure false)) (
    .pure false)
noncomputable def law06_awake_F : Option Bool := (law06_awake_T).run
def law06_awake_L : List (Nat × LoopAnn) := []
noncomputable def law06_awake_C : List (Nat × Callee) := [(11, .plain linec_Of_fun)]
noncomputable def law06_awake_fun : Fun := ⟨[], [.v .bool], fun _ => law06_awake_F⟩
theorem law06_awake_ev (x : Tys.I []) : evFun G0 (fun f => olook f law06_awake_C) ⟨[], [], [], [], []⟩ (fun i => olook i law06_awake_L) Try.f7 [] [.v .bool] x = law06_awake_T := by kernel_rfl
theorem law06_awake_ok : FunOk Try.prog 7 law06_awake_fun := evFun_ok mixed ctx0 (cons_calls (fb := .plain linec_Of_fun) linec_Of_ok (fun h => by cases h) (no_calls)) Try.func7 (by kernel_rfl) _ (fun x => congrArg Tr.run (law06_awake_ev x)) (by kernel_rfl) (by kernel_rfl)
/-! ### boustrophedon/boustrophedonref04.Lines -/
noncomputable def ref04_Lines_T : Tr (List (List Int)) :=
  .pure ([[0, 8, 3], [9, 9, 14], [10, 10, 7], [11, 12, 5], [13, 13, 6], [14, 31, 3], [32, 32, 9], [33, 33, 23], [34, 34, 22], [35, 35, 1], [36, 36, 29], [37, 37, 28], [38, 38, 1], [39, 39, 22], [40, 40, 21], [41, 41, 20], [42, 42, 1], [43, 43, 29], [44, 44, 25], [45, 45, 17], [46, 46, 25], [47, 47, 26], [48, 57, 27], [58, 59, 25], [60, 62, 1], [63, 63, 23], [64, 90, 1], [91, 91, 21], [92, 92, 29], [93, 93, 20], [94, 122, 1], [123, 123, 21], [124, 124, 14], [125, 125, 19], [126, 126, 1], [127, 132, 3], [133, 133, 8], [134, 159, 3], [160, 160, 12], [161, 161, 21], [162, 162, 28], [163, 165, 29], [166, 166, 1], [167, 168, 39], [169, 169, 1], [170, 170, 39], [171, 171, 22], [172, 172, 1], [173, 173, 14], [174, 175, 1], [176, 176, 28], [177, 177, 29], [178, 179, 39], [180, 180, 15], [181, 181, 1], [182, 186, 39], [187, 187, 22], [188, 190, 39], [191, 191, 21], [192, 214, 1], [215, 215, 39], [216, 246, 1], [247, 247, 39], [248, 710, 1], [712, 712, 15], [716, 716, 15], [735, 735, 15], [768, 846, 3], [847, 847, 12], [848, 859, 3], [860, 866, 12], [867, 879, 3], [880, 1154, 1], [1155, 1161, 3], [1162, 1416, 1], [1417, 1417, 25], [1418, 1418, 14], [1425, 1469, 3], [1470, 1470, 14], [1471, 1471, 3], [1473, 1474, 3], [1476, 1477, 3], [1478, 1478, 23], [1479, 1479, 3], [1488, 1522, 2], [1536, 1544, 1], [1545, 1547, 28], [1548, 1549, 25], [1550, 1551, 1], [1552, 1562, 3], [1563, 1563, 23], [1564, 1564, 3], [1565, 1567, 23], [1568, 1610, 1], [1611, 1631, 3], [1632, 1641, 27], [1642, 1642, 28], [1643, 1644, 27], [1645, 1647, 1], [1648, 1648, 3], [1649, 1747, 1], [1748, 1748, 23], [1749, 1749, 1], [1750, 1756, 3], [1757, 1757, 27], [1758, 1758, 1], [1759, 1764, 3], [1765, 1766, 1], [1767, 1768, 3], [1769, 1769, 1], [1770, 1773, 3], [1774, 1775, 1], [1776, 1785, 27], [1786, 1808, 1], [1809, 1809, 3], [1810, 1839, 1], [1840, 1866, 3], [1867, 1957, 1], [1958, 1968, 3], [2304, 2307, 3], [2308, 2361, 1], [2362, 2364, 3], [2365, 2365, 1], [2366, 2383, 3], [2392, 2401, 1], [2404, 2405, 14], [2406, 2415, 27], [3585, 3632, 40], [3633, 3633, 40], [3634, 3635, 40], [3636, 3642, 40], [3647, 3647, 29], [3648, 3662, 40], [3664, 3673, 27], [3674, 3675, 14], [4352, 4447, 34], [4448, 4519, 35], [4520, 4607, 36], [5760, 5760, 14], [8192, 8198, 14], [8199, 8199, 12], [8200, 8202, 14], [8203, 8203, 10], [8204, 8204, 3], [8205, 8205, 4], [8206, 8207, 3], [8208, 8208, 14], [8209, 8209, 12], [8210, 8211, 14], [8212, 8212, 16], [8213, 8214, 39], [8216, 8217, 22], [8218, 8218, 21], [8219, 8221, 22], [8222, 8222, 21], [8223, 8223, 22], [8224, 8225, 39], [8228, 8230, 24], [8231, 8231, 14], [8232, 8233, 5], [8234, 8238, 3], [8239, 8239, 12], [8240, 8247, 28], [8248, 8248, 1], [8249, 8250, 22], [8251, 8251, 39], [8252, 8253, 18], [8260, 8260, 25], [8261, 8261, 21], [8262, 8262, 19], [8263, 8265, 18], [8278, 8278, 14], [8280, 8283, 14], [8285, 8287, 14], [8288, 8288, 11], [8294, 8303, 3], [8317, 8317, 21], [8318, 8318, 19], [8333, 8333, 21], [8334, 8334, 19], [8352, 8358, 29], [8359, 8359, 28], [8360, 8373, 29], [8374, 8374, 28], [8375, 8399, 29], [8400, 8432, 3], [8451, 8451, 28], [8457, 8457, 28], [8470, 8470, 29], [8592, 8601, 39], [8722, 8723, 29], [8968, 8968, 21], [8969, 8969, 19], [8970, 8970, 21], [8971, 8971, 19], [8986, 8987, 30], [9001, 9001, 21], [9002, 9002, 19], [9200, 9203, 30], [9312, 9470, 39], [9472, 9547, 39], [9728, 9731, 30], [9748, 9749, 30], [9757, 9757, 31], [9785, 9787, 30], [9977, 9977, 31], [9994, 9997, 31], [10082, 10083, 23], [10084, 10084, 30], [10214, 10214, 21], [10215, 10215, 19], [10216, 10216, 21], [10217, 10217, 19], [10218, 10218, 21], [10219, 10219, 19], [10627, 10627, 21], [10628, 10628, 19], [11904, 12287, 30], [12288, 12288, 14], [12289, 12290, 19], [12291, 12292, 30], [12293, 12293, 18], [12294, 12295, 30], [12296, 12296, 21], [12297, 12297, 19], [12298, 12298, 21], [12299, 12299, 19], [12300, 12300, 21], [12301, 12301, 19], [12302, 12302, 21], [12303, 12303, 19], [12304, 12304, 21], [12305, 12305, 19], [12306, 12307, 30], [12308, 12308, 21], [12309, 12309, 19], [12310, 12310, 21], [12311, 12311, 19], [12316, 12316, 18], [12317, 12317, 21], [12318, 12319, 19], [12320, 12329, 30], [12330, 12335, 3], [12336, 12346, 30], [12347, 12348, 18], [12353, 12353, 42], [12354, 12354, 30], [12355, 12355, 42], [12356, 12356, 30], [12357, 12357, 42], [12358, 12358, 30], [12359, 12359, 42], [12360, 12360, 30], [12361, 12361, 42], [12362, 12386, 30], [12387, 12387, 42], [12388, 12418, 30], [12419, 12419, 42], [12420, 12420, 30], [12421, 12421, 42], [12422, 12422, 30], [12423, 12423, 42], [12424, 12440, 30], [12441, 12442, 3], [12443, 12446, 18], [12447, 12447, 30], [12448, 12448, 18], [12449, 12449, 42], [12450, 12482, 30], [12483, 12483, 42], [12484, 12538, 30], [12539, 12539, 18], [12540, 12540, 42], [12541, 12542, 18], [12543, 12543, 30], [12549, 19903, 30], [19968, 40980, 30], [40981, 40981, 18], [40982, 42191, 30], [55296, 57343, 41], [63744, 64255, 30], [64285, 64285, 2], [64286, 64286, 3], [64287, 64296, 2], [64297, 64297, 1], [64298, 64335, 2], [64336, 65019, 1], [65020, 65020, 28], [65024, 65039, 3], [65040, 65040, 25], [65043, 65044, 25], [65056, 65071, 3], [65136, 65276, 1], [65279, 65279, 11], [65281, 65281, 23], [65282, 65283, 30], [65284, 65284, 29], [65285, 65285, 28], [65288, 65288, 21], [65289, 65289, 19], [65292, 65292, 19], [65294, 65294, 19], [65296, 65305, 30], [65306, 65307, 18], [65311, 65311, 23], [65313, 65338, 30], [65339, 65339, 21], [65341, 65341, 19], [65345, 65370, 30], [65371, 65371, 21], [65373, 65373, 19], [65377, 65377, 19], [65378, 65378, 21], [65379, 65380, 19], [65532, 65532, 13], [65533, 65533, 39], [127462, 127487, 33], [127744, 127876, 30], [127877, 127877, 31], [127878, 127994, 30], [127995, 127999, 32], [128000, 128065, 30], [128066, 128067, 31], [128068, 128069, 30], [128070, 128080, 31], [128081, 128101, 30], [128102, 128120, 31], [128121, 129791, 30], [131072, 262141, 30], [917505, 917631, 3], [917760, 917999, 3]])
noncomputable def ref04_Lines_F : Option (List (List Int)) := (ref04_Lines_T).run
def ref04_Lines_L : List (Nat × LoopAnn) := []
noncomputable def ref04_Lines_C : List (Nat × Callee) := []
noncomputable def ref04_Lines_fun : Fun := ⟨[], [.row 33 (.arr 3 (.int .i64))], fun _ => ref04_Lines_F⟩
theorem ref04_Lines_ev (x : Tys.I []) : evFun G0 (fun f => olook f ref04_Lines_C) ⟨[], [], [], [], []⟩ (fun i => olook i ref04_Lines_L) Try.f9 [] [.row 33 (.arr 3 (.int .i64))] x = ref04_Lines_T := by kernel_rfl
theorem ref04_Lines_ok : FunOk Try.prog 9 ref04_Lines_fun := evFun_ok mixed ctx0 (no_calls) Try.func9 (by kernel_rfl) _ (fun x => congrArg Tr.run (ref04_Lines_ev x)) (by kernel_rfl) (by kernel_rfl)
/-! ### boustrophedon/api.Wrap -/
noncomputable def api_Wrap_F (e : Int) (s : ByteArray) (n : Int) : Option (Option (Int × ByteArray × Int)) := some (some (e, s, n))
noncomputable def api_Wrap_fun : Fun := ⟨[.eno 48, .str, .int .i64], [.v (.err 52 48)], fun x => api_Wrap_F x.1 x.2.1 x.2.2.1⟩
theorem api_Wrap_ok : FunOk Try.prog 14 api_Wrap_fun := wrap_ok (tF := 54) ⟨_, _, Try.func14, by kernel_rfl, rfl⟩ (fun k n s w => by
  go_enter Try.func14, Try.ntmps14
  go_wp2
  go_ret
  exact ⟨rfl, rfl⟩)
/-! ### boustrophedon/trie.Check -/
noncomputable def trie_Check_L3 (last3 : Int) (t6 : List (Int × Int × Int)) (t7 : Int) (t8 : Int) : Tr (Lap (Int × (List (Int × Int × Int)) × Int × Int) (Sum Unit (Option (Int × ByteArray × Int)))) :=
  .br (decide (t8 < t7)) (
    .bnd (idx t6 t8) fun x_1 =>
    .bnd (idx ([x_1]) 0) fun x_2 =>
    .br (decide (x_2.1 < 0)) (
      .bnd (api_Wrap_F 4 (ByteArray.mk #[114, 97, 110, 103, 101]) t8) fun c_3 =>
      .pure (.done (.inr c_3))) (
      .bnd (idx ([x_1]) 0) fun x_4 =>
      .br (decide (x_4.2.1 > 1114111)) (
        .bnd (api_Wrap_F 4 (ByteArray.mk #[114, 97, 110, 103, 101]) t8) fun c_5 =>
        .pure (.done (.inr c_5))) (
        .bnd (idx ([x_1]) 0) fun x_6 =>
        .bnd (idx ([x_1]) 0) fun x_7 =>
        .br (decide (x_6.2.1 < x_7.1)) (
          .bnd (api_Wrap_F 4 (ByteArray.mk #[114, 97, 110, 103, 101]) t8) fun c_8 =>
          .pure (.done (.inr c_8))) (
          .bnd (idx ([x_1]) 0) fun x_9 =>
          .br (decide (x_9.1 ≤ last3)) (
            .bnd (api_Wrap_F 5 (ByteArray.mk #[114, 97, 110, 103, 101]) t8) fun c_10 =>
            .pure (.done (.inr c_10))) (
            .bnd (idx ([x_1]) 0) fun x_11 =>
            .pure (.next (x_11.2.1, t6, t7, IntKind.i64.wrap (t8 + 1)))))))) (
    .pure (.done (.inl ())))
noncomputable def trie_Check_T (rs0 : List (Int × Int × Int)) : Tr (Option (Int × ByteArray × Int)) :=
  .alt (loopW (fun s => (trie_Check_L3 s.1 s.2.1 s.2.2.1 s.2.2.2).run) ((-1), rs0, (rs0.length : Int), 0)) (fun l_12 =>
    .pure none) (fun l_13 =>
    .pure l_13)
noncomputable def trie_Check_F (rs0 : List (Int × Int × Int)) : Option (Option (Int × ByteArray × Int)) := (trie_Check_T rs0).run
def trie_Check_L : List (Nat × LoopAnn) := [(3, { head := [.sv 3 true (.int .i32), .sv 6 false (.sl (.st (.pair (.int .i32) (.pair (.int .i32) (.int .u8))))), .sv 7 true (.int .i64), .sv 8 true (.int .i64)], xid := 0, out := [], hasRet := true, res := [.sv 2 true (.err 52 48)] })]
noncomputable def trie_Check_C : List (Nat × Callee) := [(14, .plain api_Wrap_fun)]
noncomputable def trie_Check_fun : Fun := ⟨[.sl (.st (.pair (.int .i32) (.pair (.int .i32) (.int .u8))))], [.v (.err 52 48)], fun x => trie_Check_F x.1⟩
theorem trie_Check_ev (x : Tys.I [.sl (.st (.pair (.int .i32) (.pair (.int .i32) (.int .u8))))]) : evFun G0 (fun f => olook f trie_Check_C) ⟨[], [], [], [], []⟩ (fun i => olook i trie_Check_L) Try.f10 [.sl (.st (.pair (.int .i32) (.pair (.int .i32) (.int .u8))))] [.v (.err 52 48)] x = trie_Check_T x.1 := by kernel_rfl
theorem trie_Check_ok : FunOk Try.prog 10 trie_Check_fun := evFun_ok mixed ctx0 (cons_calls (fb := .plain api_Wrap_fun) api_Wrap_ok (fun h => by cases h) (no_calls)) Try.func10 (by kernel_rfl) _ (fun x => congrArg Tr.run (trie_Check_ev x)) (by kernel_rfl) (by kernel_rfl)
/-! ### boustrophedon/boustrophedonlaw06.LinecTables -/
noncomputable def law06_LinecTables_T (k0 : Int) : Tr Bool :=
  .bnd law06_awake_F fun c_1 =>
  .br (!c_1) (
    .pure false) (
    .bnd linec_Table_F fun c_2 =>
    .bnd ref04_Lines_F fun c_3 =>
    .br ((c_2.length : Int) != (c_3.length : Int)) (
      .pure false) (
      .bnd (trie_Check_F c_2) fun c_4 =>
      .br c_4.isSome (
        .pure false) (
        .br ((c_2.length : Int) != 0) (
          .bnd (idx c_2 ((IntKind.i64.wrap k0).tmod (c_2.length : Int))) fun x_5 =>
          .bnd (idx c_3 ((IntKind.i64.wrap k0).tmod (c_2.length : Int))) fun x_6 =>
          .bnd (idx x_6 0) fun x_7 =>
          .br ((IntKind.i64.wrap x_5.1) == x_7) (
            .bnd (idx c_2 ((IntKind.i64.wrap k0).tmod (c_2.length : Int))) fun x_8 =>
            .bnd (idx c_3 ((IntKind.i64.wrap k0).tmod (c_2.length : Int))) fun x_9 =>
            .bnd (idx x_9 1) fun x_10 =>
            .br ((IntKind.i64.wrap x_8.2.1) == x_10) (
              .bnd (idx c_2 ((IntKind.i64.wrap k0).tmod (c_2.length : Int))) fun x_11 =>
              .bnd (idx c_3 ((IntKind.i64.wrap k0).tmod (c_2.length : Int))) fun x_12 =>
              .bnd (idx x_12 2) fun x_13 =>
              .pure ((IntKind.i64.wrap x_11.2.2) == x_13)) (
              .pure false)) (
            .pure false)) (
          .fail))))
noncomputable def law06_LinecTables_F (k0 : Int) : Option Bool := (law06_LinecTables_T k0).run
def law06_LinecTables_L : List (Nat × LoopAnn) := []
noncomputable def law06_LinecTables_C : List (Nat × Callee) := [(7, .plain law06_awake_fun), (8, .plain linec_Table_fun), (9, .plain ref04_Lines_fun), (10, .plain trie_Check_fun)]
noncomputable def law06_LinecTables_fun : Fun := ⟨[.int .u16], [.v .bool], fun x => law06_LinecTables_F x.1⟩
theorem law06_LinecTables_ev (x : Tys.I [.int .u16]) : evFun G0 (fun f => olook f law06_LinecTables_C) ⟨[], [], [], [], []⟩ (fun i => olook i law06_LinecTables_L) Try.f3 [.int .u16] [.v .bool] x = law06_LinecTables_T x.1 := by kernel_rfl
theorem law06_LinecTables_ok : FunOk Try.prog 3 law06_LinecTables_fun := evFun_ok mixed ctx0 (cons_calls (fb := .plain law06_awake_fun) law06_awake_ok (fun h => by cases h) (cons_calls (fb := .plain linec_Table_fun) linec_Table_ok (fun h => by cases h) (cons_calls (fb := .plain ref04_Lines_fun) ref04_Lines_ok (fun h => by cases h) (cons_calls (fb := .plain trie_Check_fun) trie_Check_ok (fun h => by cases h) (no_calls))))) Try.func3 (by kernel_rfl) _ (fun x => congrArg Tr.run (law06_LinecTables_ev x)) (by kernel_rfl) (by kernel_rfl)
/-! ### boustrophedon/boustrophedonref04.Find -/
noncomputable def ref04_Find_L2 (t0 : List (List Int)) (r1 : Int) (other2 : Int) (k7 : Int) : Tr (Lap (List (List Int) × Int × Int × Int) (Sum Int Int)) :=
  .br (decide (k7 < (t0.length : Int))) (
    .bnd (idx t0 k7) fun x_1 =>
    .bnd (idx x_1 0) fun x_2 =>
    .br (decide (x_2 ≤ r1)) (
      .bnd (idx t0 k7) fun x_3 =>
      .bnd (idx x_3 1) fun x_4 =>
      .br (decide (r1 ≤ x_4)) (
        .bnd (idx t0 k7) fun x_5 =>
        .bnd (idx x_5 2) fun x_6 =>
        .pure (.done (.inr x_6))) (
        .pure (.next (t0, r1, other2, IntKind.i64.wrap (k7 + 1))))) (
      .pure (.next (t0, r1, other2, IntKind.i64.wrap (k7 + 1))))) (
    .pure (.done (.inl other2)))
noncomputable def ref04_Find_T (t0 : List (List Int)) (r1 : Int) (other2 : Int) : Tr Int :=
  .alt (loopW (fun s => (ref04_Find_L2 s.1 s.2.1 s.2.2.1 s.2.2.2).run) (t0, r1, other2, 0)) (fun l_7 =>
    .pure l_7) (fun l_8 =>
    .pure l_8)
noncomputable def ref04_Find_F (t0 : List (List Int)) (r1 : Int) (other2 : Int) : Option Int := (ref04_Find_T t0 r1 other2).run
def ref04_Find_L : List (Nat × LoopAnn) := [(2, { head := [.sv 0 false (.sl (.arr 3 (.int .i64))), .sv 1 false (.int .i64), .sv 2 false (.int .i64), .sv 7 true (.int .i64)], xid := 0, out := [.sv 2 false (.int .i64)], hasRet := true, res := [.sv 6 false (.int .i64)] })]
noncomputable def ref04_Find_C : List (Nat × Callee) := []
noncomputable def ref04_Find_fun : Fun := ⟨[.sl (.arr 3 (.int .i64)), .int .i64, .int .i64], [.v (.int .i64)], fun x => ref04_Find_F x.1 x.2.1 x.2.2.1⟩
theorem ref04_Find_ev (x : Tys.I [.sl (.arr 3 (.int .i64)), .int .i64, .int .i64]) : evFun G0 (fun f => olook f ref04_Find_C) ⟨[], [], [], [], []⟩ (fun i => olook i ref04_Find_L) Try.f17 [.sl (.arr 3 (.int .i64)), .int .i64, .int .i64] [.v (.int .i64)] x = ref04_Find_T x.1 x.2.1 x.2.2.1 := by kernel_rfl
theorem ref04_Find_ok : FunOk Try.prog 17 ref04_Find_fun := evFun_ok mixed ctx0 (no_calls) Try.func17 (by kernel_rfl) _ (fun x => congrArg Tr.run (ref04_Find_ev x)) (by kernel_rfl) (by kernel_rfl)
/-! ### boustrophedon/boustrophedonref04.Line -/
noncomputable def ref04_Line_T (r0 : Int) : Tr Int :=
  .br (decide (r0 ≥ 44032)) (
    .br (decide (r0 ≤ 55203)) (
      .br (((IntKind.i64.wrap (r0 - 44032)).tmod 28) == 0) (
        .pure 37) (
        .pure 38)) (
      .bnd ref04_Lines_F fun c_1 =>
      .bnd (ref04_Find_F c_1 r0 0) fun c_2 =>
      .pure c_2)) (
    .bnd ref04_Lines_F fun c_3 =>
    .bnd (ref04_Find_F c_3 r0 0) fun c_4 =>
    .pure c_4)
noncomputable def ref04_Line_F (r0 : Int) : Option Int := (ref04_Line_T r0).run
def ref04_Line_L : List (Nat × LoopAnn) := []
noncomputable def ref04_Line_C : List (Nat × Callee) := [(9, .plain ref04_Lines_fun), (17, .plain ref04_Find_fun)]
noncomputable def ref04_Line_fun : Fun := ⟨[.int .i64], [.v (.int .i64)], fun x => ref04_Line_F x.1⟩
theorem ref04_Line_ev (x : Tys.I [.int .i64]) : evFun G0 (fun f => olook f ref04_Line_C) ⟨[], [], [], [], []⟩ (fun i => olook i ref04_Line_L) Try.f12 [.int .i64] [.v (.int .i64)] x = ref04_Line_T x.1 := by kernel_rfl
theorem ref04_Line_ok : FunOk Try.prog 12 ref04_Line_fun := evFun_ok mixed ctx0 (cons_calls (fb := .plain ref04_Lines_fun) ref04_Lines_ok (fun h => by cases h) (cons_calls (fb := .plain ref04_Find_fun) ref04_Find_ok (fun h => by cases h) (no_calls))) Try.func12 (by kernel_rfl) _ (fun x => congrArg Tr.run (ref04_Line_ev x)) (by kernel_rfl) (by kernel_rfl)
/-! ### boustrophedon/boustrophedonlaw06.LinecOf -/
noncomputable def law06_LinecOf_L7 (rs0 : List Int) (cs3 : List Int) (k4 : Int) : Tr (Lap (List Int × List Int × Int) (Sum Unit Bool)) :=
  .br (decide (k4 < (rs0.length : Int))) (
    .bnd (idx cs3 k4) fun x_3 =>
    .bnd (idx rs0 k4) fun x_4 =>
    .bnd (ref04_Line_F (IntKind.i64.wrap x_4)) fun c_5 =>
    .br ((IntKind.i64.wrap x_3) != c_5) (
      .pure (.done (.inr false))) (
      .pure (.next (rs0, cs3, IntKind.i64.wrap (k4 + 1))))) (
    .pure (.done (.inl ())))
noncomputable def law06_LinecOf_T (rs0 : List Int) : Tr Bool :=
  .bnd law06_awake_F fun c_1 =>
  .br (!c_1) (
    .pure false) (
    .bnd (linec_Of_F rs0) fun c_2 =>
    .br ((c_2.length : Int) != (rs0.length : Int)) (
      .pure false) (
      .alt (loopW (fun s => (law06_LinecOf_L7 s.1 s.2.1 s.2.2).run) (rs0, c_2, 0)) (fun l_6 =>
        .pure true) (fun l_7 =>
        .pure l_7)))
noncomputable def law06_LinecOf_F (rs0 : List Int) : Option Bool := (law06_LinecOf_T rs0).run
def law06_LinecOf_L : List (Nat × LoopAnn) := [(7, { head := [.sv 0 false (.sl (.int .i32)), .srow 3 1000003 38 true (.int .u8), .sv 4 true (.int .i64)], xid := 0, out := [], hasRet := true, res := [.sv 2 true .bool] })]
noncomputable def law06_LinecOf_C : List (Nat × Callee) := [(7, .plain law06_awake_fun), (11, .plain linec_Of_fun), (12, .plain ref04_Line_fun)]
noncomputable def law06_LinecOf_fun : Fun := ⟨[.sl (.int .i32)], [.v .bool], fun x => law06_LinecOf_F x.1⟩
theorem law06_LinecOf_ev (x : Tys.I [.sl (.int .i32)]) : evFun G0 (fun f => olook f law06_LinecOf_C) ⟨[], [], [], [], []⟩ (fun i => olook i law06_LinecOf_L) Try.f4 [.sl (.int .i32)] [.v .bool] x = law06_LinecOf_T x.1 := by kernel_rfl
theorem law06_LinecOf_ok : FunOk Try.prog 4 law06_LinecOf_fun := evFun_ok mixed ctx0 (cons_calls (fb := .plain law06_awake_fun) law06_awake_ok (fun h => by cases h) (cons_calls (fb := .plain linec_Of_fun) linec_Of_ok (fun h => by cases h) (cons_calls (fb := .plain ref04_Line_fun) ref04_Line_ok (fun h => by cases h) (no_calls)))) Try.func4 (by kernel_rfl) _ (fun x => congrArg Tr.run (law06_LinecOf_ev x)) (by kernel_rfl) (by kernel_rfl)
/-! ### boustrophedon/boustrophedonlaw06.LinecEach -/
noncomputable def law06_LinecEach_L5 (rs0 : List Int) (k1 : Int) (row5 : List Int) (i6 : Int) : Tr (Lap (List Int × Int × List Int × Int) (List Int × Int × List Int)) :=
  .br (decide (i6 < 28)) (
    .bnd (app 35184372088832 row5 ([IntKind.i32.wrap (IntKind.i64.wrap ((IntKind.i64.wrap (44032 + ((IntKind.i64.wrap k1).tmod 11145))) + i6))])) fun r_2 =>
    .pure (.next (rs0, k1, r_2, IntKind.i64.wrap (i6 + 1)))) (
    .pure (.done (rs0, k1, row5)))
noncomputable def law06_LinecEach_L10 (rs0 : List Int) (k1 : Int) (n7 : Int) (t30 : List Int) (t31 : Int) (t32 : Int) : Tr (Lap (List Int × Int × Int × List Int × Int × Int) (Sum (List Int × Int × Int) Bool)) :=
  .br (decide (t32 < t31)) (
    .bnd (idx t30 t32) fun x_5 =>
    .br (x_5 == 37) (
      .br (x_5 != 37) (
        .br (x_5 != 38) (
          .pure (.done (.inr false))) (
          .pure (.next (rs0, k1, IntKind.i64.wrap (n7 + 1), t30, t31, IntKind.i64.wrap (t32 + 1))))) (
        .pure (.next (rs0, k1, IntKind.i64.wrap (n7 + 1), t30, t31, IntKind.i64.wrap (t32 + 1))))) (
      .br (x_5 != 37) (
        .br (x_5 != 38) (
          .pure (.done (.inr false))) (
          .pure (.next (rs0, k1, n7, t30, t31, IntKind.i64.wrap (t32 + 1))))) (
        .pure (.next (rs0, k1, n7, t30, t31, IntKind.i64.wrap (t32 + 1)))))) (
    .pure (.done (.inl (rs0, k1, n7))))
noncomputable def law06_LinecEach_T (rs0 : List Int) (k1 : Int) : Tr Bool :=
  .bnd law06_awake_F fun c_1 =>
  .br (!c_1) (
    .pure false) (
    .bnd (loopW (fun s => (law06_LinecEach_L5 s.1 s.2.1 s.2.2.1 s.2.2.2).run) (rs0, k1, [], 0)) fun l_3 =>
    .bnd (linec_Of_F l_3.2.2) fun c_4 =>
    .alt (loopW (fun s => (law06_LinecEach_L10 s.1 s.2.1 s.2.2.1 s.2.2.2.1 s.2.2.2.2.1 s.2.2.2.2.2).run) (l_3.1, l_3.2.1, 0, c_4, (c_4.length : Int), 0)) (fun l_6 =>
      .br ((l_6.1.length : Int) == 0) (
        .pure (l_6.2.2 == 1)) (
        .br ((l_6.1.length : Int) != 0) (
          .bnd (linec_Of_F l_6.1) fun c_7 =>
          .bnd (cut l_6.1 ((IntKind.i64.wrap l_6.2.1).tmod (l_6.1.length : Int)) (IntKind.i64.wrap (((IntKind.i64.wrap l_6.2.1).tmod (l_6.1.length : Int)) + 1))) fun r_8 =>
          .bnd (linec_Of_F r_8) fun c_9 =>
          .br (l_6.2.2 == 1) (
            .br ((c_7.length : Int) == (l_6.1.length : Int)) (
              .br ((c_9.length : Int) == 1) (
                .bnd (idx c_7 ((IntKind.i64.wrap l_6.2.1).tmod (l_6.1.length : Int))) fun x_10 =>
                .bnd (idx c_9 0) fun x_11 =>
                .pure (x_10 == x_11)) (
                .pure false)) (
              .pure false)) (
            .pure false)) (
          .fail))) (fun l_12 =>
      .pure l_12))
noncomputable def law06_LinecEach_F (rs0 : List Int) (k1 : Int) : Option Bool := (law06_LinecEach_T rs0 k1).run
def law06_LinecEach_L : List (Nat × LoopAnn) := [(5, { head := [.sv 0 false (.sl (.int .i32)), .sv 1 false (.int .u16), .srow 5 1000005 21 true (.int .i32), .sv 6 true (.int .i64)], xid := 0, out := [.sv 0 false (.sl (.int .i32)), .sv 1 false (.int .u16), .srow 5 1000005 21 true (.int .i32)], hasRet := false, res := [] }), (10, { head := [.sv 0 false (.sl (.int .i32)), .sv 1 false (.int .u16), .sv 7 true (.int .i64), .srow 30 1000030 38 true (.int .u8), .sv 31 true (.int .i64), .sv 32 true (.int .i64)], xid := 2, out := [.sv 0 false (.sl (.int .i32)), .sv 1 false (.int .u16), .sv 7 true (.int .i64)], hasRet := true, res := [.sv 4 true .bool] })]
noncomputable def law06_LinecEach_C : List (Nat × Callee) := [(7, .plain law06_awake_fun), (11, .plain linec_Of_fun)]
noncomputable def law06_LinecEach_fun : Fun := ⟨[.sl (.int .i32), .int .u16], [.v .bool], fun x => law06_LinecEach_F x.1 x.2.1⟩
theorem law06_LinecEach_ev (x : Tys.I [.sl (.int .i32), .int .u16]) : evFun G0 (fun f => olook f law06_LinecEach_C) ⟨[], [], [], [], []⟩ (fun i => olook i law06_LinecEach_L) Try.f5 [.sl (.int .i32), .int .u16] [.v .bool] x = law06_LinecEach_T x.1 x.2.1 := by kernel_rfl
theorem law06_LinecEach_ok : FunOk Try.prog 5 law06_LinecEach_fun := evFun_ok mixed ctx0 (cons_calls (fb := .plain law06_awake_fun) law06_awake_ok (fun h => by cases h) (cons_calls (fb := .plain linec_Of_fun) linec_Of_ok (fun h => by cases h) (no_calls))) Try.func5 (by kernel_rfl) _ (fun x => congrArg Tr.run (law06_LinecEach_ev x)) (by kernel_rfl) (by kernel_rfl)
/-! ### boustrophedon/boustrophedonlaw06.LinecParts -/
noncomputable def law06_LinecParts_L10 (x6 : List Int) (y7 : List Int) (t44 : List Int) (t45 : Int) (t46 : Int) : Tr (Lap (List Int × List Int × List Int × Int × Int) (Sum Unit Bool)) :=
  .br (decide (t46 < t45)) (
    .bnd (idx t44 t46) fun x_7 =>
    .br (decide (x_7 > 42)) (
      .pure (.done (.inr false))) (
      .br (decide (t46 < (x6.length : Int))) (
        .bnd (idx x6 t46) fun x_8 =>
        .br (x_7 != x_8) (
          .pure (.done (.inr false))) (
          .br (decide (t46 ≥ (x6.length : Int))) (
            .bnd (idx y7 (IntKind.i64.wrap (t46 - (x6.length : Int)))) fun x_9 =>
            .br (x_7 != x_9) (
              .pure (.done (.inr false))) (
              .pure (.next (x6, y7, t44, t45, IntKind.i64.wrap (t46 + 1))))) (
            .pure (.next (x6, y7, t44, t45, IntKind.i64.wrap (t46 + 1)))))) (
        .br (decide (t46 ≥ (x6.length : Int))) (
          .bnd (idx y7 (IntKind.i64.wrap (t46 - (x6.length : Int)))) fun x_10 =>
          .br (x_7 != x_10) (
            .pure (.done (.inr false))) (
            .pure (.next (x6, y7, t44, t45, IntKind.i64.wrap (t46 + 1))))) (
          .pure (.next (x6, y7, t44, t45, IntKind.i64.wrap (t46 + 1))))))) (
    .pure (.done (.inl ())))
noncomputable def law06_LinecParts_T (a0 : List Int) (b1 : List Int) : Tr Bool :=
  .bnd law06_awake_F fun c_1 =>
  .br (!c_1) (
    .pure false) (
    .bnd (app 35184372088832 [] a0) fun r_2 =>
    .bnd (app 35184372088832 r_2 b1) fun r_3 =>
    .bnd (linec_Of_F a0) fun c_4 =>
    .bnd (linec_Of_F b1) fun c_5 =>
    .bnd (linec_Of_F r_3) fun c_6 =>
    .br ((c_4.length : Int) != (a0.length : Int)) (
      .pure false) (
      .br ((c_5.length : Int) != (b1.length : Int)) (
        .pure false) (
        .br ((c_6.length : Int) != (r_3.length : Int)) (
          .pure false) (
          .alt (loopW (fun s => (law06_LinecParts_L10 s.1 s.2.1 s.2.2.1 s.2.2.2.1 s.2.2.2.2).run) (c_4, c_5, c_6, (c_6.length : Int), 0)) (fun l_11 =>
            .pure true) (fun l_12 =>
            .pure l_12)))))
noncomputable def law06_LinecParts_F (a0 : List Int) (b1 : List Int) : Option Bool := (law06_LinecParts_T a0 b1).run
def law06_LinecParts_L : List (Nat × LoopAnn) := [(10, { head := [.srow 6 1000006 38 true (.int .u8), .srow 7 1000007 38 true (.int .u8), .srow 44 1000044 38 true (.int .u8), .sv 45 true (.int .i64), .sv 46 true (.int .i64)], xid := 0, out := [], hasRet := true, res := [.sv 4 true .bool] })]
noncomputable def law06_LinecParts_C : List (Nat × Callee) := [(7, .plain law06_awake_fun), (11, .plain linec_Of_fun)]
noncomputable def law06_LinecParts_fun : Fun := ⟨[.sl (.int .i32), .sl (.int .i32)], [.v .bool], fun x => law06_LinecParts_F x.1 x.2.1⟩
theorem law06_LinecParts_ev (x : Tys.I [.sl (.int .i32), .sl (.int .i32)]) : evFun G0 (fun f => olook f law06_LinecParts_C) ⟨[], [], [], [], []⟩ (fun i => olook i law06_LinecParts_L) Try.f6 [.sl (.int .i32), .sl (.int .i32)] [.v .bool] x = law06_LinecParts_T x.1 x.2.1 := by kernel_rfl
theorem law06_LinecParts_ok : FunOk Try.prog 6 law06_LinecParts_fun := evFun_ok mixed ctx0 (cons_calls (fb := .plain law06_awake_fun) law06_awake_ok (fun h => by cases h) (cons_calls (fb := .plain linec_Of_fun) linec_Of_ok (fun h => by cases h) (no_calls))) Try.func6 (by kernel_rfl) _ (fun x => congrArg Tr.run (law06_LinecParts_ev x)) (by kernel_rfl) (by kernel_rfl)
end Go.Proofs.Ytdccmpcafcehpaa
