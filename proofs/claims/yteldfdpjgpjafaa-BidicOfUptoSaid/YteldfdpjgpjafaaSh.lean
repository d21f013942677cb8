/-
  The plain readings of the functions of this seat, by program; each is tied to the loaded function.
-/
import Derived.Test.YteldfdpjgpjafaaEvErr
import Derived.Test.YteldfdpjgpjafaaChecked
namespace Go.Proofs.Yteldfdpjgpjafaa
set_option maxRecDepth 100000
set_option linter.unusedVariables false

def G0 : Ctx := { ty := [(3, .int .i64), (4, .bool), (5, .int .u8), (21, .int .i32), (22, .int .u16), (24, .sl (.st (.pair (.int .i32) (.pair (.int .i32) (.int .u8))))), (26, .sl (.arr 3 (.int .i64))), (29, .err 73 67), (32, .st (.pair (.int .i32) (.pair (.int .i32) (.int .u8)))), (33, .arr 3 (.int .i64)), (35, .sl (.int .i32)), (36, .sl (.int .u8)), (38, .int .u8), (45, .sl (.int .i64)), (48, .sl (.int .u8)), (49, .sl (.int .u8)), (51, .sl (.st (.pair (.int .i64) (.pair (.int .i64) (.pair (.int .u8) .bool))))), (53, .int .u8), (55, .st (.pair (.int .i64) (.pair (.int .i64) (.pair (.int .u8) .bool)))), (62, .sl (.st (.pair (.int .i32) (.pair (.int .i32) (.int .u8))))), (65, .st (.pair (.int .i32) (.pair (.int .i32) (.int .u8)))), (69, .sl (.st (.pair (.int .i32) (.pair (.int .i32) (.int .u8))))), (72, .st (.pair (.int .i32) (.pair (.int .i32) (.int .u8))))], sls := [(24, ⟨32, .st (.pair (.int .i32) (.pair (.int .i32) (.int .u8))), 11728124029610⟩), (26, ⟨33, .arr 3 (.int .i64), 5864062014805⟩), (35, ⟨21, .int .i32, 35184372088832⟩), (36, ⟨38, .int .u8, 140737488355328⟩), (45, ⟨3, .int .i64, 17592186044416⟩), (48, ⟨5, .int .u8, 140737488355328⟩), (49, ⟨53, .int .u8, 140737488355328⟩), (51, ⟨55, .st (.pair (.int .i64) (.pair (.int .i64) (.pair (.int .u8) .bool))), 5864062014805⟩), (62, ⟨65, .st (.pair (.int .i32) (.pair (.int .i32) (.int .u8))), 11728124029610⟩), (69, ⟨72, .st (.pair (.int .i32) (.pair (.int .i32) (.int .u8))), 11728124029610⟩)], eqs := [(55, .pair (.int .i64) (.pair (.int .i64) (.pair (.int .u8) .bool)))], enos := [67] }
theorem mixed : Try.prog.follows .mixedOrders = true := by kernel_rfl
theorem ctx0 : CtxOk Try.prog G0 := ctx_ok (by kernel_rfl)
theorem no_calls {Λ : List Nat} : ∀ f fa, olook f ([] : List (Nat × Callee)) = some fa → CalleeOk Try.prog f fa ∧ (fa.isPlain = false → inList f Λ = true) := fun _ _ h => by cases h
theorem cons_calls {Λ : List Nat} {k : Nat} {fb : Callee} {l : List (Nat × Callee)} (h : CalleeOk Try.prog k fb) (hi : fb.isPlain = false → inList k Λ = true) (hl : ∀ f fa, olook f l = some fa → CalleeOk Try.prog f fa ∧ (fa.isPlain = false → inList f Λ = true)) : ∀ f fa, olook f ((k, fb) :: l) = some fa → CalleeOk Try.prog f fa ∧ (fa.isPlain = false → inList f Λ = true) := by
  intro f fa hf
  rw [olook_cons] at hf
  split at hf
  · rename_i e; subst e; cases hf; exact ⟨h, hi⟩
  · exact hl f fa hf

/-! ### boustrophedon/bidic.rows -/
noncomputable def bidic_rows_T : Tr (List (Int × Int × Int)) :=
  .pure ([(0, 8, 9), (9, 9, 11), (10, 10, 10), (11, 11, 11), (12, 12, 12), (13, 13, 10), (14, 27, 9), (28, 30, 10), (31, 31, 11), (32, 32, 12), (33, 34, 13), (35, 37, 5), (38, 42, 13), (43, 43, 4), (44, 44, 7), (45, 45, 4), (46, 47, 7), (48, 57, 3), (58, 58, 7), (59, 64, 13), (91, 96, 13), (123, 126, 13), (127, 132, 9), (133, 133, 10), (134, 159, 9), (160, 160, 7), (161, 161, 13), (162, 165, 5), (166, 169, 13), (171, 172, 13), (173, 173, 9), (174, 175, 13), (176, 177, 5), (178, 179, 3), (180, 180, 13), (182, 184, 13), (185, 185, 3), (187, 191, 13), (215, 215, 13), (247, 247, 13), (768, 879, 8), (1155, 1161, 8), (1424, 1424, 1), (1425, 1469, 8), (1470, 1470, 1), (1471, 1471, 8), (1472, 1472, 1), (1473, 1474, 8), (1475, 1475, 1), (1476, 1477, 8), (1478, 1478, 1), (1479, 1479, 8), (1480, 1535, 1), (1536, 1541, 6), (1542, 1543, 13), (1544, 1544, 2), (1545, 1546, 5), (1547, 1547, 2), (1548, 1548, 7), (1549, 1549, 2), (1550, 1551, 13), (1552, 1562, 8), (1563, 1610, 2), (1611, 1631, 8), (1632, 1641, 6), (1642, 1642, 5), (1643, 1644, 6), (1645, 1647, 2), (1648, 1648, 8), (1649, 1749, 2), (1750, 1756, 8), (1757, 1757, 6), (1758, 1758, 13), (1759, 1764, 8), (1765, 1766, 2), (1767, 1768, 8), (1769, 1769, 13), (1770, 1773, 8), (1774, 1775, 2), (1776, 1785, 3), (1786, 1808, 2), (1809, 1809, 8), (1810, 1839, 2), (1840, 1866, 8), (1867, 1957, 2), (1958, 1968, 8), (1969, 1983, 2), (1984, 2026, 1), (2027, 2035, 8), (2036, 2037, 1), (2038, 2041, 13), (2042, 2143, 1), (2144, 2249, 2), (2250, 2273, 8), (2274, 2274, 6), (2275, 2306, 8), (2364, 2364, 8), (2369, 2376, 8), (2381, 2381, 8), (3633, 3633, 8), (3636, 3642, 8), (3647, 3647, 5), (3655, 3662, 8), (8192, 8202, 12), (8203, 8205, 9), (8207, 8207, 1), (8208, 8231, 13), (8232, 8232, 12), (8233, 8233, 10), (8234, 8234, 14), (8235, 8235, 16), (8236, 8236, 18), (8237, 8237, 15), (8238, 8238, 17), (8239, 8239, 7), (8240, 8244, 5), (8245, 8259, 13), (8260, 8260, 7), (8261, 8286, 13), (8287, 8287, 12), (8288, 8293, 9), (8294, 8294, 19), (8295, 8295, 20), (8296, 8296, 21), (8297, 8297, 22), (8298, 8303, 9), (8304, 8304, 3), (8308, 8313, 3), (8314, 8315, 4), (8316, 8318, 13), (8320, 8329, 3), (8330, 8331, 4), (8332, 8334, 13), (8352, 8399, 5), (8400, 8432, 8), (8592, 8721, 13), (8722, 8722, 4), (8723, 8723, 5), (8724, 9013, 13), (9083, 9108, 13), (9312, 9351, 13), (9352, 9371, 3), (9472, 10239, 13), (10496, 11263, 13), (12288, 12288, 12), (12289, 12292, 13), (12296, 12320, 13), (12330, 12333, 8), (12336, 12336, 13), (64285, 64285, 1), (64286, 64286, 8), (64287, 64296, 1), (64297, 64297, 4), (64298, 64335, 1), (64336, 64975, 2), (64976, 65007, 9), (65008, 65023, 2), (65024, 65039, 8), (65056, 65071, 8), (65104, 65104, 7), (65106, 65106, 7), (65109, 65109, 7), (65113, 65118, 13), (65136, 65278, 2), (65279, 65279, 9), (65281, 65282, 13), (65283, 65285, 5), (65286, 65290, 13), (65291, 65291, 4), (65292, 65292, 7), (65293, 65293, 4), (65294, 65295, 7), (65296, 65305, 3), (65306, 65306, 7), (65307, 65312, 13), (65339, 65344, 13), (65371, 65381, 13), (67584, 69631, 1), (120782, 120831, 3), (124928, 125135, 1), (125136, 125142, 8), (125143, 126063, 1), (126064, 126719, 2), (126720, 126975, 1), (127744, 129791, 13), (917504, 917759, 9), (917760, 917999, 8), (918000, 921599, 9)])
noncomputable def bidic_rows_F : Option (List (Int × Int × Int)) := (bidic_rows_T).run
def bidic_rows_L : List (Nat × LoopAnn) := []
noncomputable def bidic_rows_C : List (Nat × Callee) := []
noncomputable def bidic_rows_fun : Fun := ⟨[], [.row 65 (.st (.pair (.int .i32) (.pair (.int .i32) (.int .u8))))], fun _ => bidic_rows_F⟩
theorem bidic_rows_ev (x : Tys.I []) : evFun G0 (fun f => olook f bidic_rows_C) ⟨[], [], []⟩ (fun i => olook i bidic_rows_L) Try.f37 [] [.row 65 (.st (.pair (.int .i32) (.pair (.int .i32) (.int .u8))))] x = bidic_rows_T := by kernel_rfl
theorem bidic_rows_ok : FunOk Try.prog 37 bidic_rows_fun := evFun_ok mixed ctx0 (no_calls) Try.func37 (by kernel_rfl) _ (fun x => congrArg Tr.run (bidic_rows_ev x)) (by kernel_rfl) (by kernel_rfl)
/-! ### boustrophedon/bidic.Table -/
noncomputable def bidic_Table_L4 (rs2 : List (Int × Int × Int)) (t9 : List (Int × Int × Int)) (t10 : Int) (t11 : Int) : Tr (Lap ((List (Int × Int × Int)) × (List (Int × Int × Int)) × Int × Int) (List (Int × Int × Int))) :=
  .br (decide (t11 < t10)) (
    .bnd (idx t9 t11) fun x_3 =>
    .bnd (idx ([x_3]) 0) fun x_4 =>
    .bnd (idx ([x_3]) 0) fun x_5 =>
    .bnd (idx ([x_3]) 0) fun x_6 =>
    .bnd (idx rs2 t11) fun x_7 =>
    .pure (.next (rs2.set (Int.toNat t11) (x_4.1, x_5.2.1, x_6.2.2), t9, t10, IntKind.i64.wrap (t11 + 1)))) (
    .pure (.done rs2))
noncomputable def bidic_Table_T : Tr (List (Int × Int × Int)) :=
  .bnd bidic_rows_F fun c_1 =>
  .bnd (mk 11728124029610 (0, (0, 0)) (c_1.length : Int)) fun r_2 =>
  .bnd (loopW (fun s => (bidic_Table_L4 s.1 s.2.1 s.2.2.1 s.2.2.2).run) (r_2, c_1, (c_1.length : Int), 0)) fun l_8 =>
  .pure l_8
noncomputable def bidic_Table_F : Option (List (Int × Int × Int)) := (bidic_Table_T).run
def bidic_Table_L : List (Nat × LoopAnn) := [(4, { head := [.srow 2 1000002 32 true (.st (.pair (.int .i32) (.pair (.int .i32) (.int .u8)))), .srow 9 1000009 65 true (.st (.pair (.int .i32) (.pair (.int .i32) (.int .u8)))), .sv 10 true (.int .i64), .sv 11 true (.int .i64)], xid := 0, out := [.srow 2 1000002 32 true (.st (.pair (.int .i32) (.pair (.int .i32) (.int .u8))))], hasRet := false, res := [] })]
noncomputable def bidic_Table_C : List (Nat × Callee) := [(37, .plain bidic_rows_fun)]
noncomputable def bidic_Table_fun : Fun := ⟨[], [.row 32 (.st (.pair (.int .i32) (.pair (.int .i32) (.int .u8))))], fun _ => bidic_Table_F⟩
theorem bidic_Table_ev (x : Tys.I []) : evFun G0 (fun f => olook f bidic_Table_C) ⟨[], [], []⟩ (fun i => olook i bidic_Table_L) Try.f16 [] [.row 32 (.st (.pair (.int .i32) (.pair (.int .i32) (.int .u8))))] x = bidic_Table_T := by kernel_rfl
theorem bidic_Table_ok : FunOk Try.prog 16 bidic_Table_fun := evFun_ok mixed ctx0 (cons_calls (fb := .plain bidic_rows_fun) bidic_rows_ok (fun h => by cases h) (no_calls)) Try.func16 (by kernel_rfl) _ (fun x => congrArg Tr.run (bidic_Table_ev x)) (by kernel_rfl) (by kernel_rfl)
/-! ### boustrophedon/ranges.Find -/
noncomputable def ranges_Find_L2 (rs0 : List (Int × Int × Int)) (r1 : Int) (other2 : Int) (from7 : Int) (to8 : Int) : Tr (Lap ((List (Int × Int × Int)) × Int × Int × Int × Int) (Sum Int Int)) :=
  .br (decide (from7 < to8)) (
    .bnd (idx rs0 (IntKind.i64.wrap ((IntKind.i64.wrap (from7 + to8)).tdiv 2))) fun x_1 =>
    .br (decide (r1 < x_1.1)) (
      .pure (.next (rs0, r1, other2, from7, IntKind.i64.wrap ((IntKind.i64.wrap (from7 + to8)).tdiv 2)))) (
      .bnd (idx rs0 (IntKind.i64.wrap ((IntKind.i64.wrap (from7 + to8)).tdiv 2))) fun x_2 =>
      .br (decide (r1 > x_2.2.1)) (
        .pure (.next (rs0, r1, other2, IntKind.i64.wrap ((IntKind.i64.wrap ((IntKind.i64.wrap (from7 + to8)).tdiv 2)) + 1), to8))) (
        .bnd (idx rs0 (IntKind.i64.wrap ((IntKind.i64.wrap (from7 + to8)).tdiv 2))) fun x_3 =>
        .pure (.done (.inr x_3.2.2))))) (
    .pure (.done (.inl other2)))
noncomputable def ranges_Find_T (rs0 : List (Int × Int × Int)) (r1 : Int) (other2 : Int) : Tr Int :=
  .alt (loopW (fun s => (ranges_Find_L2 s.1 s.2.1 s.2.2.1 s.2.2.2.1 s.2.2.2.2).run) (rs0, r1, other2, 0, (rs0.length : Int))) (fun l_4 =>
    .pure l_4) (fun l_5 =>
    .pure l_5)
noncomputable def ranges_Find_F (rs0 : List (Int × Int × Int)) (r1 : Int) (other2 : Int) : Option Int := (ranges_Find_T rs0 r1 other2).run
def ranges_Find_L : List (Nat × LoopAnn) := [(2, { head := [.sv 0 false (.sl (.st (.pair (.int .i32) (.pair (.int .i32) (.int .u8))))), .sv 1 false (.int .i32), .sv 2 false (.int .u8), .sv 7 true (.int .i64), .sv 8 true (.int .i64)], xid := 0, out := [.sv 2 false (.int .u8)], hasRet := true, res := [.sv 6 false (.int .u8)] })]
noncomputable def ranges_Find_C : List (Nat × Callee) := []
noncomputable def ranges_Find_fun : Fun := ⟨[.sl (.st (.pair (.int .i32) (.pair (.int .i32) (.int .u8)))), .int .i32, .int .u8], [.v (.int .u8)], fun x => ranges_Find_F x.1 x.2.1 x.2.2.1⟩
theorem ranges_Find_ev (x : Tys.I [.sl (.st (.pair (.int .i32) (.pair (.int .i32) (.int .u8)))), .int .i32, .int .u8]) : evFun G0 (fun f => olook f ranges_Find_C) ⟨[], [], []⟩ (fun i => olook i ranges_Find_L) Try.f39 [.sl (.st (.pair (.int .i32) (.pair (.int .i32) (.int .u8)))), .int .i32, .int .u8] [.v (.int .u8)] x = ranges_Find_T x.1 x.2.1 x.2.2.1 := by kernel_rfl
theorem ranges_Find_ok : FunOk Try.prog 39 ranges_Find_fun := evFun_ok mixed ctx0 (no_calls) Try.func39 (by kernel_rfl) _ (fun x => congrArg Tr.run (ranges_Find_ev x)) (by kernel_rfl) (by kernel_rfl)
/-! ### boustrophedon/bidic.Of -/
noncomputable def bidic_Of_L4 (table3 : List (Int × Int × Int)) (cs4 : List Int) (t11 : List Int) (t12 : Int) (t13 : Int) : Tr (Lap ((List (Int × Int × Int)) × List Int × List Int × Int × Int) (List Int)) :=
  .br (decide (t13 < t12)) (
    .bnd (idx t11 t13) fun x_3 =>
    .bnd (ranges_Find_F table3 x_3 0) fun c_4 =>
    .bnd (idx cs4 t13) fun x_5 =>
    .pure (.next (table3, cs4.set (Int.toNat t13) c_4, t11, t12, IntKind.i64.wrap (t13 + 1)))) (
    .pure (.done cs4))
noncomputable def bidic_Of_T (rs0 : List Int) : Tr (List Int) :=
  .bnd bidic_Table_F fun c_1 =>
  .bnd (mk 140737488355328 0 (rs0.length : Int)) fun r_2 =>
  .bnd (loopW (fun s => (bidic_Of_L4 s.1 s.2.1 s.2.2.1 s.2.2.2.1 s.2.2.2.2).run) (c_1, r_2, rs0, (rs0.length : Int), 0)) fun l_6 =>
  .pure l_6
noncomputable def bidic_Of_F (rs0 : List Int) : Option (List Int) := (bidic_Of_T rs0).run
def bidic_Of_L : List (Nat × LoopAnn) := [(4, { head := [.srow 3 1000003 32 true (.st (.pair (.int .i32) (.pair (.int .i32) (.int .u8)))), .srow 4 1000004 38 true (.int .u8), .sv 11 false (.sl (.int .i32)), .sv 12 true (.int .i64), .sv 13 true (.int .i64)], xid := 0, out := [.srow 4 1000004 38 true (.int .u8)], hasRet := false, res := [] })]
noncomputable def bidic_Of_C : List (Nat × Callee) := [(16, .plain bidic_Table_fun), (39, .plain ranges_Find_fun)]
noncomputable def bidic_Of_fun : Fun := ⟨[.sl (.int .i32)], [.row 38 (.int .u8)], fun x => bidic_Of_F x.1⟩
theorem bidic_Of_ev (x : Tys.I [.sl (.int .i32)]) : evFun G0 (fun f => olook f bidic_Of_C) ⟨[], [], []⟩ (fun i => olook i bidic_Of_L) Try.f19 [.sl (.int .i32)] [.row 38 (.int .u8)] x = bidic_Of_T x.1 := by kernel_rfl
theorem bidic_Of_ok : FunOk Try.prog 19 bidic_Of_fun := evFun_ok mixed ctx0 (cons_calls (fb := .plain bidic_Table_fun) bidic_Table_ok (fun h => by cases h) (cons_calls (fb := .plain ranges_Find_fun) ranges_Find_ok (fun h => by cases h) (no_calls))) Try.func19 (by kernel_rfl) _ (fun x => congrArg Tr.run (bidic_Of_ev x)) (by kernel_rfl) (by kernel_rfl)
/-! ### boustrophedon/boustrophedonlaw04.awake -/
noncomputable def law04_awake_T : Tr Bool :=
  .bnd (bidic_Of_F ([97, 1488, 1633, 49, 8295])) fun c_1 =>
  .br ((c_1.length : Int) == 5) (
    .bnd (idx c_1 0) fun x_2 =>
    .br (x_2 == 0) (
      .bnd (idx c_1 1) fun x_3 =>
      .br (x_3 == 1) (
        .bnd (idx c_1 2) fun x_4 =>
        .br (x_4 == 6) (
          .bnd (idx c_1 3) fun x_5 =>
          .br (x_5 == 3) (
            .bnd (idx c_1 4) fun x_6 =>
            .pure (x_6 == 20)) (
            .pure false)) (
          .pure false)) (
        .pure false)) (
      .pure false)) (
    .pure false)
noncomputable def law04_awake_F : Option Bool := (law04_awake_T).run
def law04_awake_L : List (Nat × LoopAnn) := []
noncomputable def law04_awake_C : List (Nat × Callee) := [(19, .plain bidic_Of_fun)]
noncomputable def law04_awake_fun : Fun := ⟨[], [.v .bool], fun _ => law04_awake_F⟩
theorem law04_awake_ev (x : Tys.I []) : evFun G0 (fun f => olook f law04_awake_C) ⟨[], [], []⟩ (fun i => olook i law04_awake_L) Try.f15 [] [.v .bool] x = law04_awake_T := by kernel_rfl
theorem law04_awake_ok : FunOk Try.prog 15 law04_awake_fun := evFun_ok mixed ctx0 (cons_calls (fb := .plain bidic_Of_fun) bidic_Of_ok (fun h => by cases h) (no_calls)) Try.func15 (by kernel_rfl) _ (fun x => congrArg Tr.run (law04_awake_ev x)) (by kernel_rfl) (by kernel_rfl)
/-! ### boustrophedon/boustrophedonref04.Bidi -/
noncomputable def ref04_Bidi_T : Tr (List (List Int)) :=
  .pure ([[0, 8, 9], [9, 9, 11], [10, 10, 10], [11, 11, 11], [12, 12, 12], [13, 13, 10], [14, 27, 9], [28, 30, 10], [31, 31, 11], [32, 32, 12], [33, 34, 13], [35, 37, 5], [38, 42, 13], [43, 43, 4], [44, 44, 7], [45, 45, 4], [46, 47, 7], [48, 57, 3], [58, 58, 7], [59, 64, 13], [91, 96, 13], [123, 126, 13], [127, 132, 9], [133, 133, 10], [134, 159, 9], [160, 160, 7], [161, 161, 13], [162, 165, 5], [166, 169, 13], [171, 172, 13], [173, 173, 9], [174, 175, 13], [176, 177, 5], [178, 179, 3], [180, 180, 13], [182, 184, 13], [185, 185, 3], [187, 191, 13], [215, 215, 13], [247, 247, 13], [768, 879, 8], [1155, 1161, 8], [1424, 1424, 1], [1425, 1469, 8], [1470, 1470, 1], [1471, 1471, 8], [1472, 1472, 1], [1473, 1474, 8], [1475, 1475, 1], [1476, 1477, 8], [1478, 1478, 1], [1479, 1479, 8], [1480, 1535, 1], [1536, 1541, 6], [1542, 1543, 13], [1544, 1544, 2], [1545, 1546, 5], [1547, 1547, 2], [1548, 1548, 7], [1549, 1549, 2], [1550, 1551, 13], [1552, 1562, 8], [1563, 1610, 2], [1611, 1631, 8], [1632, 1641, 6], [1642, 1642, 5], [1643, 1644, 6], [1645, 1647, 2], [1648, 1648, 8], [1649, 1749, 2], [1750, 1756, 8], [1757, 1757, 6], [1758, 1758, 13], [1759, 1764, 8], [1765, 1766, 2], [1767, 1768, 8], [1769, 1769, 13], [1770, 1773, 8], [1774, 1775, 2], [1776, 1785, 3], [1786, 1808, 2], [1809, 1809, 8], [1810, 1839, 2], [1840, 1866, 8], [1867, 1957, 2], [1958, 1968, 8], [1969, 1983, 2], [1984, 2026, 1], [2027, 2035, 8], [2036, 2037, 1], [2038, 2041, 13], [2042, 2143, 1], [2144, 2249, 2], [2250, 2273, 8], [2274, 2274, 6], [2275, 2306, 8], [2364, 2364, 8], [2369, 2376, 8], [2381, 2381, 8], [3633, 3633, 8], [3636, 3642, 8], [3647, 3647, 5], [3655, 3662, 8], [8192, 8202, 12], [8203, 8205, 9], [8207, 8207, 1], [8208, 8231, 13], [8232, 8232, 12], [8233, 8233, 10], [8234, 8234, 14], [8235, 8235, 16], [8236, 8236, 18], [8237, 8237, 15], [8238, 8238, 17], [8239, 8239, 7], [8240, 8244, 5], [8245, 8259, 13], [8260, 8260, 7], [8261, 8286, 13], [8287, 8287, 12], [8288, 8293, 9], [8294, 8294, 19], [8295, 8295, 20], [8296, 8296, 21], [8297, 8297, 22], [8298, 8303, 9], [8304, 8304, 3], [8308, 8313, 3], [8314, 8315, 4], [8316, 8318, 13], [8320, 8329, 3], [8330, 8331, 4], [8332, 8334, 13], [8352, 8399, 5], [8400, 8432, 8], [8592, 8721, 13], [8722, 8722, 4], [8723, 8723, 5], [8724, 9013, 13], [9083, 9108, 13], [9312, 9351, 13], [9352, 9371, 3], [9472, 10239, 13], [10496, 11263, 13], [12288, 12288, 12], [12289, 12292, 13], [12296, 12320, 13], [12330, 12333, 8], [12336, 12336, 13], [64285, 64285, 1], [64286, 64286, 8], [64287, 64296, 1], [64297, 64297, 4], [64298, 64335, 1], [64336, 64975, 2], [64976, 65007, 9], [65008, 65023, 2], [65024, 65039, 8], [65056, 65071, 8], [65104, 65104, 7], [65106, 65106, 7], [65109, 65109, 7], [65113, 65118, 13], [65136, 65278, 2], [65279, 65279, 9], [65281, 65282, 13], [65283, 65285, 5], [65286, 65290, 13], [65291, 65291, 4], [65292, 65292, 7], [65293, 65293, 4], [65294, 65295, 7], [65296, 65305, 3], [65306, 65306, 7], [65307, 65312, 13], [65339, 65344, 13], [65371, 65381, 13], [67584, 69631, 1], [120782, 120831, 3], [124928, 125135, 1], [125136, 125142, 8], [125143, 126063, 1], [126064, 126719, 2], [126720, 126975, 1], [127744, 129791, 13], [917504, 917759, 9], [917760, 917999, 8], [918000, 921599, 9]])
noncomputable def ref04_Bidi_F : Option (List (List Int)) := (ref04_Bidi_T).run
def ref04_Bidi_L : List (Nat × LoopAnn) := []
noncomputable def ref04_Bidi_C : List (Nat × Callee) := []
noncomputable def ref04_Bidi_fun : Fun := ⟨[], [.row 33 (.arr 3 (.int .i64))], fun _ => ref04_Bidi_F⟩
theorem ref04_Bidi_ev (x : Tys.I []) : evFun G0 (fun f => olook f ref04_Bidi_C) ⟨[], [], []⟩ (fun i => olook i ref04_Bidi_L) Try.f17 [] [.row 33 (.arr 3 (.int .i64))] x = ref04_Bidi_T := by kernel_rfl
theorem ref04_Bidi_ok : FunOk Try.prog 17 ref04_Bidi_fun := evFun_ok mixed ctx0 (no_calls) Try.func17 (by kernel_rfl) _ (fun x => congrArg Tr.run (ref04_Bidi_ev x)) (by kernel_rfl) (by kernel_rfl)
/-! ### boustrophedon/api.Wrap -/
noncomputable def api_Wrap_F (e : Int) (s : ByteArray) (n : Int) : Option (Option (Int × ByteArray × Int)) := some (some (e, s, n))
noncomputable def api_Wrap_fun : Fun := ⟨[.eno 67, .str, .int .i64], [.v (.err 73 67)], fun x => api_Wrap_F x.1 x.2.1 x.2.2.1⟩
theorem api_Wrap_ok : FunOk Try.prog 38 api_Wrap_fun := wrap_ok (tF := 75) ⟨_, _, Try.func38, by kernel_rfl, rfl⟩ (fun k n s w => by
  go_enter Try.func38, Try.ntmps38
  go_wp2
  go_ret
  exact ⟨rfl, rfl⟩)
/-! ### boustrophedon/trie.Check -/
noncomputable def trie_Check_L3 (last3 : Int) (t6 : List (Int × Int × Int)) (t7 : Int) (t8 : Int) : Tr (Lap (Int × (List (Int × Int × Int)) × Int × Int) (Sum Unit (Option (Int × ByteArray × Int)))) :=
  .br (decide (t8 < t7)) (
    .bnd (idx t6 t8) fun x_1 =>
    .bnd (idx ([x_1]) 0) fun x_2 =>
    .br (decide (x_2.1 < 0)) (
      .bnd (api_Wrap_F 4 (ByteArray.mk #[114, 97, 110, 103, 101]) t8) fun c_3 =>
      .pure (.done (.inr c_3))) (
      .bnd (idx ([x_1]) 0) fun x_4 =>
      .br (decide (x_4.2.1 > 1114111)) (
        .bnd (api_Wrap_F 4 (ByteArray.mk #[114, 97, 110, 103, 101]) t8) fun c_5 =>
        .pure (.done (.inr c_5))) (
        .bnd (idx ([x_1]) 0) fun x_6 =>
        .bnd (idx ([x_1]) 0) fun x_7 =>
        .br (decide (x_6.2.1 < x_7.1)) (
          .bnd (api_Wrap_F 4 (ByteArray.mk #[114, 97, 110, 103, 101]) t8) fun c_8 =>
          .pure (.done (.inr c_8))) (
          .bnd (idx ([x_1]) 0) fun x_9 =>
          .br (decide (x_9.1 ≤ last3)) (
            .bnd (api_Wrap_F 5 (ByteArray.mk #[114, 97, 110, 103, 101]) t8) fun c_10 =>
            .pure (.done (.inr c_10))) (
            .bnd (idx ([x_1]) 0) fun x_11 =>
            .pure (.next (x_11.2.1, t6, t7, IntKind.i64.wrap (t8 + 1)))))))) (
    .pure (.done (.inl ())))
noncomputable def trie_Check_T (rs0 : List (Int × Int × Int)) : Tr (Option (Int × ByteArray × Int)) :=
  .alt (loopW (fun s => (trie_Check_L3 s.1 s.2.1 s.2.2.1 s.2.2.2).run) ((-1), rs0, (rs0.length : Int), 0)) (fun l_12 =>
    .pure none) (fun l_13 =>
    .pure l_13)
noncomputable def trie_Check_F (rs0 : List (Int × Int × Int)) : Option (Option (Int × ByteArray × Int)) := (trie_Check_T rs0).run
def trie_Check_L : List (Nat × LoopAnn) := [(3, { head := [.sv 3 true (.int .i32), .sv 6 false (.sl (.st (.pair (.int .i32) (.pair (.int .i32) (.int .u8))))), .sv 7 true (.int .i64), .sv 8 true (.int .i64)], xid := 0, out := [], hasRet := true, res := [.sv 2 true (.err 73 67)] })]
noncomputable def trie_Check_C : List (Nat × Callee) := [(38, .plain api_Wrap_fun)]
noncomputable def trie_Check_fun : Fun := ⟨[.sl (.st (.pair (.int .i32) (.pair (.int .i32) (.int .u8))))], [.v (.err 73 67)], fun x => trie_Check_F x.1⟩
theorem trie_Check_ev (x : Tys.I [.sl (.st (.pair (.int .i32) (.pair (.int .i32) (.int .u8))))]) : evFun G0 (fun f => olook f trie_Check_C) ⟨[], [], []⟩ (fun i => olook i trie_Check_L) Try.f18 [.sl (.st (.pair (.int .i32) (.pair (.int .i32) (.int .u8))))] [.v (.err 73 67)] x = trie_Check_T x.1 := by kernel_rfl
theorem trie_Check_ok : FunOk Try.prog 18 trie_Check_fun := evFun_ok mixed ctx0 (cons_calls (fb := .plain api_Wrap_fun) api_Wrap_ok (fun h => by cases h) (no_calls)) Try.func18 (by kernel_rfl) _ (fun x => congrArg Tr.run (trie_Check_ev x)) (by kernel_rfl) (by kernel_rfl)
/-! ### boustrophedon/boustrophedonlaw04.BidicTables -/
noncomputable def law04_BidicTables_T (k0 : Int) : Tr Bool :=
  .bnd law04_awake_F fun c_1 =>
  .br (!c_1) (
    .pure false) (
    .bnd bidic_Table_F fun c_2 =>
    .bnd ref04_Bidi_F fun c_3 =>
    .br ((c_2.length : Int) != (c_3.length : Int)) (
      .pure false) (
      .bnd (trie_Check_F c_2) fun c_4 =>
      .br c_4.isSome (
        .pure false) (
        .br ((c_2.length : Int) != 0) (
          .bnd (idx c_2 ((IntKind.i64.wrap k0).tmod (c_2.length : Int))) fun x_5 =>
          .bnd (idx c_3 ((IntKind.i64.wrap k0).tmod (c_2.length : Int))) fun x_6 =>
          .bnd (idx x_6 0) fun x_7 =>
          .br ((IntKind.i64.wrap x_5.1) == x_7) (
            .bnd (idx c_2 ((IntKind.i64.wrap k0).tmod (c_2.length : Int))) fun x_8 =>
            .bnd (idx c_3 ((IntKind.i64.wrap k0).tmod (c_2.length : Int))) fun x_9 =>
            .bnd (idx x_9 1) fun x_10 =>
            .br ((IntKind.i64.wrap x_8.2.1) == x_10) (
              .bnd (idx c_2 ((IntKind.i64.wrap k0).tmod (c_2.length : Int))) fun x_11 =>
              .bnd (idx c_3 ((IntKind.i64.wrap k0).tmod (c_2.length : Int))) fun x_12 =>
              .bnd (idx x_12 2) fun x_13 =>
              .pure ((IntKind.i64.wrap x_11.2.2) == x_13)) (
              .pure false)) (
            .pure false)) (
          .fail))))
noncomputable def law04_BidicTables_F (k0 : Int) : Option Bool := (law04_BidicTables_T k0).run
def law04_BidicTables_L : List (Nat × LoopAnn) := []
noncomputable def law04_BidicTables_C : List (Nat × Callee) := [(15, .plain law04_awake_fun), (16, .plain bidic_Table_fun), (17, .plain ref04_Bidi_fun), (18, .plain trie_Check_fun)]
noncomputable def law04_BidicTables_fun : Fun := ⟨[.int .u16], [.v .bool], fun x => law04_BidicTables_F x.1⟩
theorem law04_BidicTables_ev (x : Tys.I [.int .u16]) : evFun G0 (fun f => olook f law04_BidicTables_C) ⟨[], [], []⟩ (fun i => olook i law04_BidicTables_L) Try.f3 [.int .u16] [.v .bool] x = law04_BidicTables_T x.1 := by kernel_rfl
theorem law04_BidicTables_ok : FunOk Try.prog 3 law04_BidicTables_fun := evFun_ok mixed ctx0 (cons_calls (fb := .plain law04_awake_fun) law04_awake_ok (fun h => by cases h) (cons_calls (fb := .plain bidic_Table_fun) bidic_Table_ok (fun h => by cases h) (cons_calls (fb := .plain ref04_Bidi_fun) ref04_Bidi_ok (fun h => by cases h) (cons_calls (fb := .plain trie_Check_fun) trie_Check_ok (fun h => by cases h) (no_calls))))) Try.func3 (by kernel_rfl) _ (fun x => congrArg Tr.run (law04_BidicTables_ev x)) (by kernel_rfl) (by kernel_rfl)
/-! ### boustrophedon/boustrophedonref04.Find -/
noncomputable def ref04_Find_L2 (t0 : List (List Int)) (r1 : Int) (other2 : Int) (k7 : Int) : Tr (Lap (List (List Int) × Int × Int × Int) (Sum Int Int)) :=
  .br (decide (k7 < (t0.length : Int))) (
    .bnd (idx t0 k7) fun x_1 =>
    .bnd (idx x_1 0) fun x_2 =>
    .br (decide (x_2 ≤ r1)) (
      .bnd (idx t0 k7) fun x_3 =>
      .bnd (idx x_3 1) fun x_4 =>
      .br (decide (r1 ≤ x_4)) (
        .bnd (idx t0 k7) fun x_5 =>
        .bnd (idx x_5 2) fun x_6 =>
        .pure (.done (.inr x_6))) (
        .pure (.next (t0, r1, other2, IntKind.i64.wrap (k7 + 1))))) (
      .pure (.next (t0, r1, other2, IntKind.i64.wrap (k7 + 1))))) (
    .pure (.done (.inl other2)))
noncomputable def ref04_Find_T (t0 : List (List Int)) (r1 : Int) (other2 : Int) : Tr Int :=
  .alt (loopW (fun s => (ref04_Find_L2 s.1 s.2.1 s.2.2.1 s.2.2.2).run) (t0, r1, other2, 0)) (fun l_7 =>
    .pure l_7) (fun l_8 =>
    .pure l_8)
noncomputable def ref04_Find_F (t0 : List (List Int)) (r1 : Int) (other2 : Int) : Option Int := (ref04_Find_T t0 r1 other2).run
def ref04_Find_L : List (Nat × LoopAnn) := [(2, { head := [.sv 0 false (.sl (.arr 3 (.int .i64))), .sv 1 false (.int .i64), .sv 2 false (.int .i64), .sv 7 true (.int .i64)], xid := 0, out := [.sv 2 false (.int .i64)], hasRet := true, res := [.sv 6 false (.int .i64)] })]
noncomputable def ref04_Find_C : List (Nat × Callee) := []
noncomputable def ref04_Find_fun : Fun := ⟨[.sl (.arr 3 (.int .i64)), .int .i64, .int .i64], [.v (.int .i64)], fun x => ref04_Find_F x.1 x.2.1 x.2.2.1⟩
theorem ref04_Find_ev (x : Tys.I [.sl (.arr 3 (.int .i64)), .int .i64, .int .i64]) : evFun G0 (fun f => olook f ref04_Find_C) ⟨[], [], []⟩ (fun i => olook i ref04_Find_L) Try.f20 [.sl (.arr 3 (.int .i64)), .int .i64, .int .i64] [.v (.int .i64)] x = ref04_Find_T x.1 x.2.1 x.2.2.1 := by kernel_rfl
theorem ref04_Find_ok : FunOk Try.prog 20 ref04_Find_fun := evFun_ok mixed ctx0 (no_calls) Try.func20 (by kernel_rfl) _ (fun x => congrArg Tr.run (ref04_Find_ev x)) (by kernel_rfl) (by kernel_rfl)
/-! ### boustrophedon/boustrophedonlaw04.BidicOf -/
noncomputable def law04_BidicOf_L7 (rs0 : List Int) (cs3 : List Int) (k4 : Int) : Tr (Lap (List Int × List Int × Int) (Sum Unit Bool)) :=
  .br (decide (k4 < (rs0.length : Int))) (
    .bnd (idx cs3 k4) fun x_3 =>
    .bnd (idx rs0 k4) fun x_4 =>
    .bnd ref04_Bidi_F fun c_5 =>
    .bnd (ref04_Find_F c_5 (IntKind.i64.wrap x_4) 0) fun c_6 =>
    .br ((IntKind.i64.wrap x_3) != c_6) (
      .pure (.done (.inr false))) (
      .pure (.next (rs0, cs3, IntKind.i64.wrap (k4 + 1))))) (
    .pure (.done (.inl ())))
noncomputable def law04_BidicOf_T (rs0 : List Int) : Tr Bool :=
  .bnd law04_awake_F fun c_1 =>
  .br (!c_1) (
    .pure false) (
    .bnd (bidic_Of_F rs0) fun c_2 =>
    .br ((c_2.length : Int) != (rs0.length : Int)) (
      .pure false) (
      .alt (loopW (fun s => (law04_BidicOf_L7 s.1 s.2.1 s.2.2).run) (rs0, c_2, 0)) (fun l_7 =>
        .pure true) (fun l_8 =>
        .pure l_8)))
noncomputable def law04_BidicOf_F (rs0 : List Int) : Option Bool := (law04_BidicOf_T rs0).run
def law04_BidicOf_L : List (Nat × LoopAnn) := [(7, { head := [.sv 0 false (.sl (.int .i32)), .srow 3 1000003 38 true (.int .u8), .sv 4 true (.int .i64)], xid := 0, out := [], hasRet := true, res := [.sv 2 true .bool] })]
noncomputable def law04_BidicOf_C : List (Nat × Callee) := [(15, .plain law04_awake_fun), (19, .plain bidic_Of_fun), (17, .plain ref04_Bidi_fun), (20, .plain ref04_Find_fun)]
noncomputable def law04_BidicOf_fun : Fun := ⟨[.sl (.int .i32)], [.v .bool], fun x => law04_BidicOf_F x.1⟩
theorem law04_BidicOf_ev (x : Tys.I [.sl (.int .i32)]) : evFun G0 (fun f => olook f law04_BidicOf_C) ⟨[], [(9, [0, 1, 2, 3, 4, 6, 7, 8, 9, 10, 5, 11, 12])], []⟩ (fun i => olook i law04_BidicOf_L) Try.f4 [.sl (.int .i32)] [.v .bool] x = law04_BidicOf_T x.1 := by kernel_rfl
theorem law04_BidicOf_ok : FunOk Try.prog 4 law04_BidicOf_fun := evFun_ok mixed ctx0 (cons_calls (fb := .plain law04_awake_fun) law04_awake_ok (fun h => by cases h) (cons_calls (fb := .plain bidic_Of_fun) bidic_Of_ok (fun h => by cases h) (cons_calls (fb := .plain ref04_Bidi_fun) ref04_Bidi_ok (fun h => by cases h) (cons_calls (fb := .plain ref04_Find_fun) ref04_Find_ok (fun h => by cases h) (no_calls))))) Try.func4 (by kernel_rfl) _ (fun x => congrArg Tr.run (law04_BidicOf_ev x)) (by kernel_rfl) (by kernel_rfl)
/-! ### boustrophedon/bidic.Strong -/
noncomputable def bidic_Strong_T (c0 : Int) : Tr Bool :=
  .br (c0 == 0) (
    .pure true) (
    .br (c0 == 1) (
      .pure true) (
      .pure (c0 == 2)))
noncomputable def bidic_Strong_F (c0 : Int) : Option Bool := (bidic_Strong_T c0).run
def bidic_Strong_L : List (Nat × LoopAnn) := []
noncomputable def bidic_Strong_C : List (Nat × Callee) := []
noncomputable def bidic_Strong_fun : Fun := ⟨[.int .u8], [.v .bool], fun x => bidic_Strong_F x.1⟩
theorem bidic_Strong_ev (x : Tys.I [.int .u8]) : evFun G0 (fun f => olook f bidic_Strong_C) ⟨[], [], []⟩ (fun i => olook i bidic_Strong_L) Try.f21 [.int .u8] [.v .bool] x = bidic_Strong_T x.1 := by kernel_rfl
theorem bidic_Strong_ok : FunOk Try.prog 21 bidic_Strong_fun := evFun_ok mixed ctx0 (no_calls) Try.func21 (by kernel_rfl) _ (fun x => congrArg Tr.run (bidic_Strong_ev x)) (by kernel_rfl) (by kernel_rfl)
/-! ### boustrophedon/bidic.Isolate -/
noncomputable def bidic_Isolate_T (c0 : Int) : Tr Bool :=
  .br (c0 == 19) (
    .pure true) (
    .br (c0 == 20) (
      .pure true) (
      .pure (c0 == 21)))
noncomputable def bidic_Isolate_F (c0 : Int) : Option Bool := (bidic_Isolate_T c0).run
def bidic_Isolate_L : List (Nat × LoopAnn) := []
noncomputable def bidic_Isolate_C : List (Nat × Callee) := []
noncomputable def bidic_Isolate_fun : Fun := ⟨[.int .u8], [.v .bool], fun x => bidic_Isolate_F x.1⟩
theorem bidic_Isolate_ev (x : Tys.I [.int .u8]) : evFun G0 (fun f => olook f bidic_Isolate_C) ⟨[], [], []⟩ (fun i => olook i bidic_Isolate_L) Try.f22 [.int .u8] [.v .bool] x = bidic_Isolate_T x.1 := by kernel_rfl
theorem bidic_Isolate_ok : FunOk Try.prog 22 bidic_Isolate_fun := evFun_ok mixed ctx0 (no_calls) Try.func22 (by kernel_rfl) _ (fun x => congrArg Tr.run (bidic_Isolate_ev x)) (by kernel_rfl) (by kernel_rfl)
/-! ### boustrophedon/bidic.Embedding -/
noncomputable def bidic_Embedding_T (c0 : Int) : Tr Bool :=
  .br (c0 == 14) (
    .pure true) (
    .br (c0 == 15) (
      .pure true) (
      .br (c0 == 16) (
        .pure true) (
        .pure (c0 == 17))))
noncomputable def bidic_Embedding_F (c0 : Int) : Option Bool := (bidic_Embedding_T c0).run
def bidic_Embedding_L : List (Nat × LoopAnn) := []
noncomputable def bidic_Embedding_C : List (Nat × Callee) := []
noncomputable def bidic_Embedding_fun : Fun := ⟨[.int .u8], [.v .bool], fun x => bidic_Embedding_F x.1⟩
theorem bidic_Embedding_ev (x : Tys.I [.int .u8]) : evFun G0 (fun f => olook f bidic_Embedding_C) ⟨[], [], []⟩ (fun i => olook i bidic_Embedding_L) Try.f23 [.int .u8] [.v .bool] x = bidic_Embedding_T x.1 := by kernel_rfl
theorem bidic_Embedding_ok : FunOk Try.prog 23 bidic_Embedding_fun := evFun_ok mixed ctx0 (no_calls) Try.func23 (by kernel_rfl) _ (fun x => congrArg Tr.run (bidic_Embedding_ev x)) (by kernel_rfl) (by kernel_rfl)
/-! ### boustrophedon/bidic.Taken -/
noncomputable def bidic_Taken_T (c0 : Int) : Tr Bool :=
  .bnd (bidic_Embedding_F c0) fun c_1 =>
  .br c_1 (
    .pure true) (
    .br (c0 == 18) (
      .pure true) (
      .pure (c0 == 9)))
noncomputable def bidic_Taken_F (c0 : Int) : Option Bool := (bidic_Taken_T c0).run
def bidic_Taken_L : List (Nat × LoopAnn) := []
noncomputable def bidic_Taken_C : List (Nat × Callee) := [(23, .plain bidic_Embedding_fun)]
noncomputable def bidic_Taken_fun : Fun := ⟨[.int .u8], [.v .bool], fun x => bidic_Taken_F x.1⟩
theorem bidic_Taken_ev (x : Tys.I [.int .u8]) : evFun G0 (fun f => olook f bidic_Taken_C) ⟨[], [], []⟩ (fun i => olook i bidic_Taken_L) Try.f24 [.int .u8] [.v .bool] x = bidic_Taken_T x.1 := by kernel_rfl
theorem bidic_Taken_ok : FunOk Try.prog 24 bidic_Taken_fun := evFun_ok mixed ctx0 (cons_calls (fb := .plain bidic_Embedding_fun) bidic_Embedding_ok (fun h => by cases h) (no_calls)) Try.func24 (by kernel_rfl) _ (fun x => congrArg Tr.run (bidic_Taken_ev x)) (by kernel_rfl) (by kernel_rfl)
/-! ### boustrophedon/boustrophedonlaw04.BidicKinds -/
noncomputable def law04_BidicKinds_T (k0 : Int) : Tr Bool :=
  .bnd law04_awake_F fun c_1 =>
  .br (!c_1) (
    .pure false) (
    .br ((k0.tmod 32) == 0) (
      .br ((k0.tmod 32) == 19) (
        .br ((k0.tmod 32) == 14) (
          .bnd (bidic_Strong_F (k0.tmod 32)) fun c_2 =>
          .br (c_2 == true) (
            .bnd (bidic_Isolate_F (k0.tmod 32)) fun c_3 =>
            .br (c_3 == true) (
              .bnd (bidic_Embedding_F (k0.tmod 32)) fun c_4 =>
              .br (c_4 == true) (
                .bnd (bidic_Taken_F (k0.tmod 32)) fun c_5 =>
                .br (c_5 == true) (
                  .pure true) (
                  .pure false)) (
                .pure false)) (
              .pure false)) (
            .pure false)) (
          .br ((k0.tmod 32) == 15) (
            .bnd (bidic_Strong_F (k0.tmod 32)) fun c_6 =>
            .br (c_6 == true) (
              .bnd (bidic_Isolate_F (k0.tmod 32)) fun c_7 =>
              .br (c_7 == true) (
                .bnd (bidic_Embedding_F (k0.tmod 32)) fun c_8 =>
                .br (c_8 == true) (
                  .bnd (bidic_Taken_F (k0.tmod 32)) fun c_9 =>
                  .br (c_9 == true) (
                    .pure true) (
                    .pure false)) (
                  .pure false)) (
                .pure false)) (
              .pure false)) (
            .br ((k0.tmod 32) == 16) (
              .bnd (bidic_Strong_F (k0.tmod 32)) fun c_10 =>
              .br (c_10 == true) (
                .bnd (bidic_Isolate_F (k0.tmod 32)) fun c_11 =>
                .br (c_11 == true) (
                  .bnd (bidic_Embedding_F (k0.tmod 32)) fun c_12 =>
                  .br (c_12 == true) (
                    .bnd (bidic_Taken_F (k0.tmod 32)) fun c_13 =>
                    .br (c_13 == true) (
                      .pure true) (
                      .pure false)) (
                    .pure false)) (
                  .pure false)) (
                .pure false)) (
              .bnd (bidic_Strong_F (k0.tmod 32)) fun c_14 =>
              .br (c_14 == true) (
                .bnd (bidic_Isolate_F (k0.tmod 32)) fun c_15 =>
                .br (c_15 == true) (
                  .bnd (bidic_Embedding_F (k0.tmod 32)) fun c_16 =>
                  .br (c_16 == ((k0.tmod 32) == 17)) (
                    .bnd (bidic_Taken_F (k0.tmod 32)) fun c_17 =>
                    .br ((k0.tmod 32) == 17) (
                      .br (c_17 == true) (
                        .pure true) (
                        .pure false)) (
                      .br ((k0.tmod 32) == 18) (
                        .br (c_17 == true) (
                          .pure true) (
                          .pure false)) (
                        .br (c_17 == ((k0.tmod 32) == 9)) (
                          .pure true) (
                          .pure false)))) (
                    .pure false)) (
                  .pure false)) (
                .pure false))))) (
        .br ((k0.tmod 32) == 20) (
          .br ((k0.tmod 32) == 14) (
            .bnd (bidic_Strong_F (k0.tmod 32)) fun c_18 =>
            .br (c_18 == true) (
              .bnd (bidic_Isolate_F (k0.tmod 32)) fun c_19 =>
              .br (c_19 == true) (
                .bnd (bidic_Embedding_F (k0.tmod 32)) fun c_20 =>
                .br (c_20 == true) (
                  .bnd (bidic_Taken_F (k0.tmod 32)) fun c_21 =>
                  .br (c_21 == true) (
                    .pure true) (
                    .pure false)) (
                  .pure false)) (
                .pure false)) (
              .pure false)) (
            .br ((k0.tmod 32) == 15) (
              .bnd (bidic_Strong_F (k0.tmod 32)) fun c_22 =>
              .br (c_22 == true) (
                .bnd (bidic_Isolate_F (k0.tmod 32)) fun c_23 =>
                .br (c_23 == true) (
                  .bnd (bidic_Embedding_F (k0.tmod 32)) fun c_24 =>
                  .br (c_24 == true) (
                    .bnd (bidic_Taken_F (k0.tmod 32)) fun c_25 =>
                    .br (c_25 == true) (
                      .pure true) (
                      .pure false)) (
                    .pure false)) (
                  .pure false)) (
                .pure false)) (
              .br ((k0.tmod 32) == 16) (
                .bnd (bidic_Strong_F (k0.tmod 32)) fun c_26 =>
                .br (c_26 == true) (
                  .bnd (bidic_Isolate_F (k0.tmod 32)) fun c_27 =>
                  .br (c_27 == true) (
                    .bnd (bidic_Embedding_F (k0.tmod 32)) fun c_28 =>
                    .br (c_28 == true) (
                      .bnd (bidic_Taken_F (k0.tmod 32)) fun c_29 =>
                      .br (c_29 == true) (
                        .pure true) (
                        .pure false)) (
                      .pure false)) (
                    .pure false)) (
                  .pure false)) (
                .bnd (bidic_Strong_F (k0.tmod 32)) fun c_30 =>
                .br (c_30 == true) (
                  .bnd (bidic_Isolate_F (k0.tmod 32)) fun c_31 =>
                  .br (c_31 == true) (
                    .bnd (bidic_Embedding_F (k0.tmod 32)) fun c_32 =>
                    .br (c_32 == ((k0.tmod 32) == 17)) (
                      .bnd (bidic_Taken_F (k0.tmod 32)) fun c_33 =>
                      .br ((k0.tmod 32) == 17) (
                        .br (c_33 == true) (
                          .pure true) (
                          .pure false)) (
                        .br ((k0.tmod 32) == 18) (
                          .br (c_33 == true) (
                            .pure true) (
                            .pure false)) (
                          .br (c_33 == ((k0.tmod 32) == 9)) (
                            .pure true) (
                            .pure false)))) (
                      .pure false)) (
                    .pure false)) (
                  .pure false))))) (
          .br ((k0.tmod 32) == 14) (
            .bnd (bidic_Strong_F (k0.tmod 32)) fun c_34 =>
            .br (c_34 == true) (
              .bnd (bidic_Isolate_F (k0.tmod 32)) fun c_35 =>
              .br (c_35 == ((k0.tmod 32) == 21)) (
                .bnd (bidic_Embedding_F (k0.tmod 32)) fun c_36 =>
                .br (c_36 == true) (
                  .bnd (bidic_Taken_F (k0.tmod 32)) fun c_37 =>
                  .br (c_37 == true) (
                    .pure true) (
                    .pure false)) (
                  .pure false)) (
                .pure false)) (
              .pure false)) (
            .br ((k0.tmod 32) == 15) (
              .bnd (bidic_Strong_F (k0.tmod 32)) fun c_38 =>
              .br (c_38 == true) (
                .bnd (bidic_Isolate_F (k0.tmod 32)) fun c_39 =>
                .br (c_39 == ((k0.tmod 32) == 21)) (
                  .bnd (bidic_Embedding_F (k0.tmod 32)) fun c_40 =>
                  .br (c_40 == true) (
                    .bnd (bidic_Taken_F (k0.tmod 32)) fun c_41 =>
                    .br (c_41 == true) (
                      .pure true) (
                      .pure false)) (
                    .pure false)) (
                  .pure false)) (
                .pure false)) (
              .br ((k0.tmod 32) == 16) (
                .bnd (bidic_Strong_F (k0.tmod 32)) fun c_42 =>
                .br (c_42 == true) (
                  .bnd (bidic_Isolate_F (k0.tmod 32)) fun c_43 =>
                  .br (c_43 == ((k0.tmod 32) == 21)) (
                    .bnd (bidic_Embedding_F (k0.tmod 32)) fun c_44 =>
                    .br (c_44 == true) (
                      .bnd (bidic_Taken_F (k0.tmod 32)) fun c_45 =>
                      .br (c_45 == true) (
                        .pure true) (
                        .pure false)) (
                      .pure false)) (
                    .pure false)) (
                  .pure false)) (
                .bnd (bidic_Strong_F (k0.tmod 32)) fun c_46 =>
                .br (c_46 == true) (
                  .bnd (bidic_Isolate_F (k0.tmod 32)) fun c_47 =>
                  .br (c_47 == ((k0.tmod 32) == 21)) (
                    .bnd (bidic_Embedding_F (k0.tmod 32)) fun c_48 =>
                    .br (c_48 == ((k0.tmod 32) == 17)) (
                      .bnd (bidic_Taken_F (k0.tmod 32)) fun c_49 =>
                      .br ((k0.tmod 32) == 17) (
                        .br (c_49 == true) (
                          .pure true) (
                          .pure false)) (
                        .br ((k0.tmod 32) == 18) (
                          .br (c_49 == true) (
                            .pure true) (
                            .pure false)) (
                          .br (c_49 == ((k0.tmod 32) == 9)) (
                            .pure true) (
                            .pure false)))) (
                      .pure false)) (
                    .pure false)) (
                  .pure false))))))) (
      .br ((k0.tmod 32) == 1) (
        .br ((k0.tmod 32) == 19) (
          .br ((k0.tmod 32) == 14) (
            .bnd (bidic_Strong_F (k0.tmod 32)) fun c_50 =>
            .br (c_50 == true) (
              .bnd (bidic_Isolate_F (k0.tmod 32)) fun c_51 =>
              .br (c_51 == true) (
                .bnd (bidic_Embedding_F (k0.tmod 32)) fun c_52 =>
                .br (c_52 == true) (
                  .bnd (bidic_Taken_F (k0.tmod 32)) fun c_53 =>
                  .br (c_53 == true) (
                    .pure true) (
                    .pure false)) (
                  .pure false)) (
                .pure false)) (
              .pure false)) (
            .br ((k0.tmod 32) == 15) (
              .bnd (bidic_Strong_F (k0.tmod 32)) fun c_54 =>
              .br (c_54 == true) (
                .bnd (bidic_Isolate_F (k0.tmod 32)) fun c_55 =>
                .br (c_55 == true) (
                  .bnd (bidic_Embedding_F (k0.tmod 32)) fun c_56 =>
                  .br (c_56 == true) (
                    .bnd (bidic_Taken_F (k0.tmod 32)) fun c_57 =>
                    .br (c_57 == true) (
                      .pure true) (
                      .pure false)) (
                    .pure false)) (
                  .pure false)) (
                .pure false)) (
              .br ((k0.tmod 32) == 16) (
                .bnd (bidic_Strong_F (k0.tmod 32)) fun c_58 =>
                .br (c_58 == true) (
                  .bnd (bidic_Isolate_F (k0.tmod 32)) fun c_59 =>
                  .br (c_59 == true) (
                    .bnd (bidic_Embedding_F (k0.tmod 32)) fun c_60 =>
                    .br (c_60 == true) (
                      .bnd (bidic_Taken_F (k0.tmod 32)) fun c_61 =>
                      .br (c_61 == true) (
                        .pure true) (
                        .pure false)) (
                      .pure false)) (
                    .pure false)) (
                  .pure false)) (
                .bnd (bidic_Strong_F (k0.tmod 32)) fun c_62 =>
                .br (c_62 == true) (
                  .bnd (bidic_Isolate_F (k0.tmod 32)) fun c_63 =>
                  .br (c_63 == true) (
                    .bnd (bidic_Embedding_F (k0.tmod 32)) fun c_64 =>
                    .br (c_64 == ((k0.tmod 32) == 17)) (
                      .bnd (bidic_Taken_F (k0.tmod 32)) fun c_65 =>
                      .br ((k0.tmod 32) == 17) (
                        .br (c_65 == true) (
                          .pure true) (
                          .pure false)) (
                        .br ((k0.tmod 32) == 18) (
                          .br (c_65 == true) (
                            .pure true) (
                            .pure false)) (
                          .br (c_65 == ((k0.tmod 32) == 9)) (
                            .pure true) (
                            .pure false)))) (
                      .pure false)) (
                    .pure false)) (
                  .pure false))))) (
          .br ((k0.tmod 32) == 20) (
            .br ((k0.tmod 32) == 14) (
              .bnd (bidic_Strong_F (k0.tmod 32)) fun c_66 =>
              .br (c_66 == true) (
                .bnd (bidic_Isolate_F (k0.tmod 32)) fun c_67 =>
                .br (c_67 == true) (
                  .bnd (bidic_Embedding_F (k0.tmod 32)) fun c_68 =>
                  .br (c_68 == true) (
                    .bnd (bidic_Taken_F (k0.tmod 32)) fun c_69 =>
                    .br (c_69 == true) (
                      .pure true) (
                      .pure false)) (
                    .pure false)) (
                  .pure false)) (
                .pure false)) (
              .br ((k0.tmod 32) == 15) (
                .bnd (bidic_Strong_F (k0.tmod 32)) fun c_70 =>
                .br (c_70 == true) (
                  .bnd (bidic_Isolate_F (k0.tmod 32)) fun c_71 =>
                  .br (c_71 == true) (
                    .bnd (bidic_Embedding_F (k0.tmod 32)) fun c_72 =>
                    .br (c_72 == true) (
                      .bnd (bidic_Taken_F (k0.tmod 32)) fun c_73 =>
                      .br (c_73 == true) (
                        .pure true) (
                        .pure false)) (
                      .pure false)) (
                    .pure false)) (
                  .pure false)) (
                .br ((k0.tmod 32) == 16) (
                  .bnd (bidic_Strong_F (k0.tmod 32)) fun c_74 =>
                  .br (c_74 == true) (
                    .bnd (bidic_Isolate_F (k0.tmod 32)) fun c_75 =>
                    .br (c_75 == true) (
                      .bnd (bidic_Embedding_F (k0.tmod 32)) fun c_76 =>
                      .br (c_76 == true) (
                        .bnd (bidic_Taken_F (k0.tmod 32)) fun c_77 =>
                        .br (c_77 == true) (
                          .pure true) (
                          .pure false)) (
                        .pure false)) (
                      .pure false)) (
                    .pure false)) (
                  .bnd (bidic_Strong_F (k0.tmod 32)) fun c_78 =>
                  .br (c_78 == true) (
                    .bnd (bidic_Isolate_F (k0.tmod 32)) fun c_79 =>
                    .br (c_79 == true) (
                      .bnd (bidic_Embedding_F (k0.tmod 32)) fun c_80 =>
                      .br (c_80 == ((k0.tmod 32) == 17)) (
                        .bnd (bidic_Taken_F (k0.tmod 32)) fun c_81 =>
                        .br ((k0.tmod 32) == 17) (
                          .br (c_81 == true) (
                            .pure true) (
                            .pure false)) (
                          .br ((k0.tmod 32) == 18) (
                            .br (c_81 == true) (
                              .pure true) (
                              .pure false)) (
                            .br (c_81 == ((k0.tmod 32) == 9)) (
                              .pure true) (
                              .pure false)))) (
                        .pure false)) (
                      .pure false)) (
                    .pure false))))) (
            .br ((k0.tmod 32) == 14) (
              .bnd (bidic_Strong_F (k0.tmod 32)) fun c_82 =>
              .br (c_82 == true) (
                .bnd (bidic_Isolate_F (k0.tmod 32)) fun c_83 =>
                .br (c_83 == ((k0.tmod 32) == 21)) (
                  .bnd (bidic_Embedding_F (k0.tmod 32)) fun c_84 =>
                  .br (c_84 == true) (
                    .bnd (bidic_Taken_F (k0.tmod 32)) fun c_85 =>
                    .br (c_85 == true) (
                      .pure true) (
                      .pure false)) (
                    .pure false)) (
                  .pure false)) (
                .pure false)) (
              .br ((k0.tmod 32) == 15) (
                .bnd (bidic_Strong_F (k0.tmod 32)) fun c_86 =>
                .br (c_86 == true) (
                  .bnd (bidic_Isolate_F (k0.tmod 32)) fun c_87 =>
                  .br (c_87 == ((k0.tmod 32) == 21)) (
                    .bnd (bidic_Embedding_F (k0.tmod 32)) fun c_88 =>
                    .br (c_88 == true) (
                      .bnd (bidic_Taken_F (k0.tmod 32)) fun c_89 =>
                      .br (c_89 == true) (
                        .pure true) (
                        .pure false)) (
                      .pure false)) (
                    .pure false)) (
                  .pure false)) (
                .br ((k0.tmod 32) == 16) (
                  .bnd (bidic_Strong_F (k0.tmod 32)) fun c_90 =>
                  .br (c_90 == true) (
                    .bnd (bidic_Isolate_F (k0.tmod 32)) fun c_91 =>
                    .br (c_91 == ((k0.tmod 32) == 21)) (
                      .bnd (bidic_Embedding_F (k0.tmod 32)) fun c_92 =>
                      .br (c_92 == true) (
                        .bnd (bidic_Taken_F (k0.tmod 32)) fun c_93 =>
                        .br (c_93 == true) (
                          .pure true) (
                          .pure false)) (
                        .pure false)) (
                      .pure false)) (
                    .pure false)) (
                  .bnd (bidic_Strong_F (k0.tmod 32)) fun c_94 =>
                  .br (c_94 == true) (
                    .bnd (bidic_Isolate_F (k0.tmod 32)) fun c_95 =>
                    .br (c_95 == ((k0.tmod 32) == 21)) (
                      .bnd (bidic_Embedding_F (k0.tmod 32)) fun c_96 =>
                      .br (c_96 == ((k0.tmod 32) == 17)) (
                        .bnd (bidic_Taken_F (k0.tmod 32)) fun c_97 =>
                        .br ((k0.tmod 32) == 17) (
                          .br (c_97 == true) (
                            .pure true) (
                            .pure false)) (
                          .br ((k0.tmod 32) == 18) (
                            .br (c_97 == true) (
                              .pure true) (
                              .pure false)) (
                            .br (c_97 == ((k0.tmod 32) == 9)) (
                              .pure true) (
                              .pure false)))) (
                        .pure false)) (
                      .pure false)) (
                    .pure false))))))) (
        .br ((k0.tmod 32) == 19) (
          .br ((k0.tmod 32) == 14) (
            .bnd (bidic_Strong_F (k0.tmod 32)) fun c_98 =>
            .br (c_98 == ((k0.tmod 32) == 2)) (
              .bnd (bidic_Isolate_F (k0.tmod 32)) fun c_99 =>
              .br (c_99 == true) (
                .bnd (bidic_Embedding_F (k0.tmod 32)) fun c_100 =>
                .br (c_100 == true) (
                  .bnd (bidic_Taken_F (k0.tmod 32)) fun c_101 =>
                  .br (c_101 == true) (
                    .pure true) (
                    .pure false)) (
                  .pure false)) (
                .pure false)) (
              .pure false)) (
            .br ((k0.tmod 32) == 15) (
              .bnd (bidic_Strong_F (k0.tmod 32)) fun c_102 =>
              .br (c_102 == ((k0.tmod 32) == 2)) (
                .bnd (bidic_Isolate_F (k0.tmod 32)) fun c_103 =>
                .br (c_103 == true) (
                  .bnd (bidic_Embedding_F (k0.tmod 32)) fun c_104 =>
                  .br (c_104 == true) (
                    .bnd (bidic_Taken_F (k0.tmod 32)) fun c_105 =>
                    .br (c_105 == true) (
                      .pure true) (
                      .pure false)) (
                    .pure false)) (
                  .pure false)) (
                .pure false)) (
              .br ((k0.tmod 32) == 16) (
                .bnd (bidic_Strong_F (k0.tmod 32)) fun c_106 =>
                .br (c_106 == ((k0.tmod 32) == 2)) (
                  .bnd (bidic_Isolate_F (k0.tmod 32)) fun c_107 =>
                  .br (c_107 == true) (
                    .bnd (bidic_Embedding_F (k0.tmod 32)) fun c_108 =>
                    .br (c_108 == true) (
                      .bnd (bidic_Taken_F (k0.tmod 32)) fun c_109 =>
                      .br (c_109 == true) (
                        .pure true) (
                        .pure false)) (
                      .pure false)) (
                    .pure false)) (
                  .pure false)) (
                .bnd (bidic_Strong_F (k0.tmod 32)) fun c_110 =>
                .br (c_110 == ((k0.tmod 32) == 2)) (
                  .bnd (bidic_Isolate_F (k0.tmod 32)) fun c_111 =>
                  .br (c_111 == true) (
                    .bnd (bidic_Embedding_F (k0.tmod 32)) fun c_112 =>
                    .br (c_112 == ((k0.tmod 32) == 17)) (
                      .bnd (bidic_Taken_F (k0.tmod 32)) fun c_113 =>
                      .br ((k0.tmod 32) == 17) (
                        .br (c_113 == true) (
                          .pure true) (
                          .pure false)) (
                        .br ((k0.tmod 32) == 18) (
                          .br (c_113 == true) (
                            .pure true) (
                            .pure false)) (
                          .br (c_113 == ((k0.tmod 32) == 9)) (
                            .pure true) (
                            .pure false)))) (
                      .pure false)) (
                    .pure false)) (
                  .pure false))))) (
          .br ((k0.tmod 32) == 20) (
            .br ((k0.tmod 32) == 14) (
              .bnd (bidic_Strong_F (k0.tmod 32)) fun c_114 =>
              .br (c_114 == ((k0.tmod 32) == 2)) (
                .bnd (bidic_Isolate_F (k0.tmod 32)) fun c_115 =>
                .br (c_115 == true) (
                  .bnd (bidic_Embedding_F (k0.tmod 32)) fun c_116 =>
                  .br (c_116 == true) (
                    .bnd (bidic_Taken_F (k0.tmod 32)) fun c_117 =>
                    .br (c_117 == true) (
                      .pure true) (
                      .pure false)) (
                    .pure false)) (
                  .pure false)) (
                .pure false)) (
              .br ((k0.tmod 32) == 15) (
                .bnd (bidic_Strong_F (k0.tmod 32)) fun c_118 =>
                .br (c_118 == ((k0.tmod 32) == 2)) (
                  .bnd (bidic_Isolate_F (k0.tmod 32)) fun c_119 =>
                  .br (c_119 == true) (
                    .bnd (bidic_Embedding_F (k0.tmod 32)) fun c_120 =>
                    .br (c_120 == true) (
                      .bnd (bidic_Taken_F (k0.tmod 32)) fun c_121 =>
                      .br (c_121 == true) (
                        .pure true) (
                        .pure false)) (
                      .pure false)) (
                    .pure false)) (
                  .pure false)) (
                .br ((k0.tmod 32) == 16) (
                  .bnd (bidic_Strong_F (k0.tmod 32)) fun c_122 =>
                  .br (c_122 == ((k0.tmod 32) == 2)) (
                    .bnd (bidic_Isolate_F (k0.tmod 32)) fun c_123 =>
                    .br (c_123 == true) (
                      .bnd (bidic_Embedding_F (k0.tmod 32)) fun c_124 =>
                      .br (c_124 == true) (
                        .bnd (bidic_Taken_F (k0.tmod 32)) fun c_125 =>
                        .br (c_125 == true) (
                          .pure true) (
                          .pure false)) (
                        .pure false)) (
                      .pure false)) (
                    .pure false)) (
                  .bnd (bidic_Strong_F (k0.tmod 32)) fun c_126 =>
                  .br (c_126 == ((k0.tmod 32) == 2)) (
                    .bnd (bidic_Isolate_F (k0.tmod 32)) fun c_127 =>
                    .br (c_127 == true) (
                      .bnd (bidic_Embedding_F (k0.tmod 32)) fun c_128 =>
                      .br (c_128 == ((k0.tmod 32) == 17)) (
                        .bnd (bidic_Taken_F (k0.tmod 32)) fun c_129 =>
                        .br ((k0.tmod 32) == 17) (
                          .br (c_129 == true) (
                            .pure true) (
                            .pure false)) (
                          .br ((k0.tmod 32) == 18) (
                            .br (c_129 == true) (
                              .pure true) (
                              .pure false)) (
                            .br (c_129 == ((k0.tmod 32) == 9)) (
                              .pure true) (
                              .pure false)))) (
                        .pure false)) (
                      .pure false)) (
                    .pure false))))) (
            .br ((k0.tmod 32) == 14) (
              .bnd (bidic_Strong_F (k0.tmod 32)) fun c_130 =>
              .br (c_130 == ((k0.tmod 32) == 2)) (
                .bnd (bidic_Isolate_F (k0.tmod 32)) fun c_131 =>
                .br (c_131 == ((k0.tmod 32) == 21)) (
                  .bnd (bidic_Embedding_F (k0.tmod 32)) fun c_132 =>
                  .br (c_132 == true) (
                    .bnd (bidic_Taken_F (k0.tmod 32)) fun c_133 =>
                    .br (c_133 == true) (
                      .pure true) (
                      .pure false)) (
                    .pure false)) (
                  .pure false)) (
                .pure false)) (
              .br ((k0.tmod 32) == 15) (
                .bnd (bidic_Strong_F (k0.tmod 32)) fun c_134 =>
                .br (c_134 == ((k0.tmod 32) == 2)) (
                  .bnd (bidic_Isolate_F (k0.tmod 32)) fun c_135 =>
                  .br (c_135 == ((k0.tmod 32) == 21)) (
                    .bnd (bidic_Embedding_F (k0.tmod 32)) fun c_136 =>
                    .br (c_136 == true) (
                      .bnd (bidic_Taken_F (k0.tmod 32)) fun c_137 =>
                      .br (c_137 == true) (
                        .pure true) (
                        .pure false)) (
                      .pure false)) (
                    .pure false)) (
                  .pure false)) (
                .br ((k0.tmod 32) == 16) (
                  .bnd (bidic_Strong_F (k0.tmod 32)) fun c_138 =>
                  .br (c_138 == ((k0.tmod 32) == 2)) (
                    .bnd (bidic_Isolate_F (k0.tmod 32)) fun c_139 =>
                    .br (c_139 == ((k0.tmod 32) == 21)) (
                      .bnd (bidic_Embedding_F (k0.tmod 32)) fun c_140 =>
                      .br (c_140 == true) (
                        .bnd (bidic_Taken_F (k0.tmod 32)) fun c_141 =>
                        .br (c_141 == true) (
                          .pure true) (
                          .pure false)) (
                        .pure false)) (
                      .pure false)) (
                    .pure false)) (
                  .bnd (bidic_Strong_F (k0.tmod 32)) fun c_142 =>
                  .br (c_142 == ((k0.tmod 32) == 2)) (
                    .bnd (bidic_Isolate_F (k0.tmod 32)) fun c_143 =>
                    .br (c_143 == ((k0.tmod 32) == 21)) (
                      .bnd (bidic_Embedding_F (k0.tmod 32)) fun c_144 =>
                      .br (c_144 == ((k0.tmod 32) == 17)) (
                        .bnd (bidic_Taken_F (k0.tmod 32)) fun c_145 =>
                        .br ((k0.tmod 32) == 17) (
                          .br (c_145 == true) (
                            .pure true) (
                            .pure false)) (
                          .br ((k0.tmod 32) == 18) (
                            .br (c_145 == true) (
                              .pure true) (
                              .pure false)) (
                            .br (c_145 == ((k0.tmod 32) == 9)) (
                              .pure true) (
                              .pure false)))) (
                        .pure false)) (
                      .pure false)) (
                    .pure false)))))))))
noncomputable def law04_BidicKinds_F (k0 : Int) : Option Bool := (law04_BidicKinds_T k0).run
def law04_BidicKinds_L : List (Nat × LoopAnn) := []
noncomputable def law04_BidicKinds_C : List (Nat × Callee) := [(15, .plain law04_awake_fun), (21, .plain bidic_Strong_fun), (22, .plain bidic_Isolate_fun), (23, .plain bidic_Embedding_fun), (24, .plain bidic_Taken_fun)]
noncomputable def law04_BidicKinds_fun : Fun := ⟨[.int .u8], [.v .bool], fun x => law04_BidicKinds_F x.1⟩
theorem law04_BidicKinds_ev (x : Tys.I [.int .u8]) : evFun G0 (fun f => olook f law04_BidicKinds_C) ⟨[], [], []⟩ (fun i => olook i law04_BidicKinds_L) Try.f5 [.int .u8] [.v .bool] x = law04_BidicKinds_T x.1 := by kernel_rfl
theorem law04_BidicKinds_ok : FunOk Try.prog 5 law04_BidicKinds_fun := evFun_ok mixed ctx0 (cons_calls (fb := .plain law04_awake_fun) law04_awake_ok (fun h => by cases h) (cons_calls (fb := .plain bidic_Strong_fun) bidic_Strong_ok (fun h => by cases h) (cons_calls (fb := .plain bidic_Isolate_fun) bidic_Isolate_ok (fun h => by cases h) (cons_calls (fb := .plain bidic_Embedding_fun) bidic_Embedding_ok (fun h => by cases h) (cons_calls (fb := .plain bidic_Taken_fun) bidic_Taken_ok (fun h => by cases h) (no_calls)))))) Try.func5 (by kernel_rfl) _ (fun x => congrArg Tr.run (law04_BidicKinds_ev x)) (by kernel_rfl) (by kernel_rfl)
/-! ### boustrophedon/boustrophedonlaw04.BidicEach -/
noncomputable def law04_BidicEach_T (rs0 : List Int) (k1 : Int) : Tr Bool :=
  .bnd law04_awake_F fun c_1 =>
  .br (!c_1) (
    .pure false) (
    .br ((rs0.length : Int) == 0) (
      .bnd (bidic_Of_F rs0) fun c_2 =>
      .pure ((c_2.length : Int) == 0)) (
      .br ((rs0.length : Int) != 0) (
        .bnd (bidic_Of_F rs0) fun c_3 =>
        .bnd (cut rs0 ((IntKind.i64.wrap k1).tmod (rs0.length : Int)) (IntKind.i64.wrap (((IntKind.i64.wrap k1).tmod (rs0.length : Int)) + 1))) fun r_4 =>
        .bnd (bidic_Of_F r_4) fun c_5 =>
        .br ((c_3.length : Int) == (rs0.length : Int)) (
          .br ((c_5.length : Int) == 1) (
            .bnd (idx c_3 ((IntKind.i64.wrap k1).tmod (rs0.length : Int))) fun x_6 =>
            .bnd (idx c_5 0) fun x_7 =>
            .pure (x_6 == x_7)) (
            .pure false)) (
          .pure false)) (
        .fail)))
noncomputable def law04_BidicEach_F (rs0 : List Int) (k1 : Int) : Option Bool := (law04_BidicEach_T rs0 k1).run
def law04_BidicEach_L : List (Nat × LoopAnn) := []
noncomputable def law04_BidicEach_C : List (Nat × Callee) := [(15, .plain law04_awake_fun), (19, .plain bidic_Of_fun)]
noncomputable def law04_BidicEach_fun : Fun := ⟨[.sl (.int .i32), .int .u16], [.v .bool], fun x => law04_BidicEach_F x.1 x.2.1⟩
theorem law04_BidicEach_ev (x : Tys.I [.sl (.int .i32), .int .u16]) : evFun G0 (fun f => olook f law04_BidicEach_C) ⟨[], [], []⟩ (fun i => olook i law04_BidicEach_L) Try.f6 [.sl (.int .i32), .int .u16] [.v .bool] x = law04_BidicEach_T x.1 x.2.1 := by kernel_rfl
theorem law04_BidicEach_ok : FunOk Try.prog 6 law04_BidicEach_fun := evFun_ok mixed ctx0 (cons_calls (fb := .plain law04_awake_fun) law04_awake_ok (fun h => by cases h) (cons_calls (fb := .plain bidic_Of_fun) bidic_Of_ok (fun h => by cases h) (no_calls))) Try.func6 (by kernel_rfl) _ (fun x => congrArg Tr.run (law04_BidicEach_ev x)) (by kernel_rfl) (by kernel_rfl)
/-! ### boustrophedon/boustrophedonlaw04.BidicParts -/
noncomputable def law04_BidicParts_L10 (x6 : List Int) (y7 : List Int) (t44 : List Int) (t45 : Int) (t46 : Int) : Tr (Lap (List Int × List Int × List Int × Int × Int) (Sum Unit Bool)) :=
  .br (decide (t46 < t45)) (
    .bnd (idx t44 t46) fun x_7 =>
    .br (decide (x_7 > 22)) (
      .pure (.done (.inr false))) (
      .br (decide (t46 < (x6.length : Int))) (
        .bnd (idx x6 t46) fun x_8 =>
        .br (x_7 != x_8) (
          .pure (.done (.inr false))) (
          .br (decide (t46 ≥ (x6.length : Int))) (
            .bnd (idx y7 (IntKind.i64.wrap (t46 - (x6.length : Int)))) fun x_9 =>
            .br (x_7 != x_9) (
              .pure (.done (.inr false))) (
              .pure (.next (x6, y7, t44, t45, IntKind.i64.wrap (t46 + 1))))) (
            .pure (.next (x6, y7, t44, t45, IntKind.i64.wrap (t46 + 1)))))) (
        .br (decide (t46 ≥ (x6.length : Int))) (
          .bnd (idx y7 (IntKind.i64.wrap (t46 - (x6.length : Int)))) fun x_10 =>
          .br (x_7 != x_10) (
            .pure (.done (.inr false))) (
            .pure (.next (x6, y7, t44, t45, IntKind.i64.wrap (t46 + 1))))) (
          .pure (.next (x6, y7, t44, t45, IntKind.i64.wrap (t46 + 1))))))) (
    .pure (.done (.inl ())))
noncomputable def law04_BidicParts_T (a0 : List Int) (b1 : List Int) : Tr Bool :=
  .bnd law04_awake_F fun c_1 =>
  .br (!c_1) (
    .pure false) (
    .bnd (app 35184372088832 [] a0) fun r_2 =>
    .bnd (app 35184372088832 r_2 b1) fun r_3 =>
    .bnd (bidic_Of_F a0) fun c_4 =>
    .bnd (bidic_Of_F b1) fun c_5 =>
    .bnd (bidic_Of_F r_3) fun c_6 =>
    .br ((c_4.length : Int) != (a0.length : Int)) (
      .pure false) (
      .br ((c_5.length : Int) != (b1.length : Int)) (
        .pure false) (
        .br ((c_6.length : Int) != (r_3.length : Int)) (
          .pure false) (
          .alt (loopW (fun s => (law04_BidicParts_L10 s.1 s.2.1 s.2.2.1 s.2.2.2.1 s.2.2.2.2).run) (c_4, c_5, c_6, (c_6.length : Int), 0)) (fun l_11 =>
            .pure true) (fun l_12 =>
            .pure l_12)))))
noncomputable def law04_BidicParts_F (a0 : List Int) (b1 : List Int) : Option Bool := (law04_BidicParts_T a0 b1).run
def law04_BidicParts_L : List (Nat × LoopAnn) := [(10, { head := [.srow 6 1000006 38 true (.int .u8), .srow 7 1000007 38 true (.int .u8), .srow 44 1000044 38 true (.int .u8), .sv 45 true (.int .i64), .sv 46 true (.int .i64)], xid := 0, out := [], hasRet := true, res := [.sv 4 true .bool] })]
noncomputable def law04_BidicParts_C : List (Nat × Callee) := [(15, .plain law04_awake_fun), (19, .plain bidic_Of_fun)]
noncomputable def law04_BidicParts_fun : Fun := ⟨[.sl (.int .i32), .sl (.int .i32)], [.v .bool], fun x => law04_BidicParts_F x.1 x.2.1⟩
theorem law04_BidicParts_ev (x : Tys.I [.sl (.int .i32), .sl (.int .i32)]) : evFun G0 (fun f => olook f law04_BidicParts_C) ⟨[], [], []⟩ (fun i => olook i law04_BidicParts_L) Try.f7 [.sl (.int .i32), .sl (.int .i32)] [.v .bool] x = law04_BidicParts_T x.1 x.2.1 := by kernel_rfl
theorem law04_BidicParts_ok : FunOk Try.prog 7 law04_BidicParts_fun := evFun_ok mixed ctx0 (cons_calls (fb := .plain law04_awake_fun) law04_awake_ok (fun h => by cases h) (cons_calls (fb := .plain bidic_Of_fun) bidic_Of_ok (fun h => by cases h) (no_calls))) Try.func7 (by kernel_rfl) _ (fun x => congrArg Tr.run (law04_BidicParts_ev x)) (by kernel_rfl) (by kernel_rfl)
/-! ### boustrophedon/cellw.rows -/
noncomputable def cellw_rows_T : Tr (List (Int × Int × Int)) :=
  .pure ([(0, 31, 0), (127, 159, 0), (173, 173, 0), (768, 879, 0), (1155, 1161, 0), (1425, 1469, 0), (1471, 1471, 0), (1473, 1474, 0), (1476, 1477, 0), (1479, 1479, 0), (1536, 1541, 0), (1552, 1562, 0), (1564, 1564, 0), (1611, 1631, 0), (1648, 1648, 0), (1750, 1757, 0), (1759, 1764, 0), (1767, 1768, 0), (1770, 1773, 0), (1809, 1809, 0), (1840, 1866, 0), (1958, 1968, 0), (2027, 2035, 0), (2250, 2306, 0), (2362, 2362, 0), (2364, 2364, 0), (2369, 2376, 0), (2381, 2381, 0), (3633, 3633, 0), (3636, 3642, 0), (3655, 3662, 0), (4352, 4447, 2), (4448, 4607, 0), (8203, 8207, 0), (8232, 8238, 0), (8288, 8303, 0), (8400, 8432, 0), (8986, 8987, 2), (9001, 9002, 2), (9200, 9200, 2), (9203, 9203, 2), (9748, 9749, 2), (11904, 12287, 2), (12288, 12329, 2), (12330, 12333, 0), (12334, 12350, 2), (12353, 12440, 2), (12441, 12442, 0), (12443, 13311, 2), (13312, 19903, 2), (19968, 42191, 2), (43360, 43391, 2), (44032, 55203, 2), (63744, 64255, 2), (64286, 64286, 0), (65024, 65039, 0), (65040, 65049, 2), (65056, 65071, 0), (65072, 65135, 2), (65279, 65279, 0), (65281, 65376, 2), (65504, 65510, 2), (127462, 127487, 1), (127744, 128591, 2), (128640, 128767, 2), (129280, 129791, 2), (131072, 262141, 2), (917505, 917631, 0), (917760, 917999, 0)])
noncomputable def cellw_rows_F : Option (List (Int × Int × Int)) := (cellw_rows_T).run
def cellw_rows_L : List (Nat × LoopAnn) := []
noncomputable def cellw_rows_C : List (Nat × Callee) := []
noncomputable def cellw_rows_fun : Fun := ⟨[], [.row 72 (.st (.pair (.int .i32) (.pair (.int .i32) (.int .u8))))], fun _ => cellw_rows_F⟩
theorem cellw_rows_ev (x : Tys.I []) : evFun G0 (fun f => olook f cellw_rows_C) ⟨[], [], []⟩ (fun i => olook i cellw_rows_L) Try.f40 [] [.row 72 (.st (.pair (.int .i32) (.pair (.int .i32) (.int .u8))))] x = cellw_rows_T := by kernel_rfl
theorem cellw_rows_ok : FunOk Try.prog 40 cellw_rows_fun := evFun_ok mixed ctx0 (no_calls) Try.func40 (by kernel_rfl) _ (fun x => congrArg Tr.run (cellw_rows_ev x)) (by kernel_rfl) (by kernel_rfl)
/-! ### boustrophedon/cellw.Table -/
noncomputable def cellw_Table_L4 (rs2 : List (Int × Int × Int)) (t9 : List (Int × Int × Int)) (t10 : Int) (t11 : Int) : Tr (Lap ((List (Int × Int × Int)) × (List (Int × Int × Int)) × Int × Int) (List (Int × Int × Int))) :=
  .br (decide (t11 < t10)) (
    .bnd (idx t9 t11) fun x_3 =>
    .bnd (idx ([x_3]) 0) fun x_4 =>
    .bnd (idx ([x_3]) 0) fun x_5 =>
    .bnd (idx ([x_3]) 0) fun x_6 =>
    .bnd (idx rs2 t11) fun x_7 =>
    .pure (.next (rs2.set (Int.toNat t11) (x_4.1, x_5.2.1, x_6.2.2), t9, t10, IntKind.i64.wrap (t11 + 1)))) (
    .pure (.done rs2))
noncomputable def cellw_Table_T : Tr (List (Int × Int × Int)) :=
  .bnd cellw_rows_F fun c_1 =>
  .bnd (mk 11728124029610 (0, (0, 0)) (c_1.length : Int)) fun r_2 =>
  .bnd (loopW (fun s => (cellw_Table_L4 s.1 s.2.1 s.2.2.1 s.2.2.2).run) (r_2, c_1, (c_1.length : Int), 0)) fun l_8 =>
  .pure l_8
noncomputable def cellw_Table_F : Option (List (Int × Int × Int)) := (cellw_Table_T).run
def cellw_Table_L : List (Nat × LoopAnn) := [(4, { head := [.srow 2 1000002 32 true (.st (.pair (.int .i32) (.pair (.int .i32) (.int .u8)))), .srow 9 1000009 72 true (.st (.pair (.int .i32) (.pair (.int .i32) (.int .u8)))), .sv 10 true (.int .i64), .sv 11 true (.int .i64)], xid := 0, out := [.srow 2 1000002 32 true (.st (.pair (.int .i32) (.pair (.int .i32) (.int .u8))))], hasRet := false, res := [] })]
noncomputable def cellw_Table_C : List (Nat × Callee) := [(40, .plain cellw_rows_fun)]
noncomputable def cellw_Table_fun : Fun := ⟨[], [.row 32 (.st (.pair (.int .i32) (.pair (.int .i32) (.int .u8))))], fun _ => cellw_Table_F⟩
theorem cellw_Table_ev (x : Tys.I []) : evFun G0 (fun f => olook f cellw_Table_C) ⟨[], [], []⟩ (fun i => olook i cellw_Table_L) Try.f27 [] [.row 32 (.st (.pair (.int .i32) (.pair (.int .i32) (.int .u8))))] x = cellw_Table_T := by kernel_rfl
theorem cellw_Table_ok : FunOk Try.prog 27 cellw_Table_fun := evFun_ok mixed ctx0 (cons_calls (fb := .plain cellw_rows_fun) cellw_rows_ok (fun h => by cases h) (no_calls)) Try.func27 (by kernel_rfl) _ (fun x => congrArg Tr.run (cellw_Table_ev x)) (by kernel_rfl) (by kernel_rfl)
/-! ### boustrophedon/cellw.Of -/
noncomputable def cellw_Of_L4 (table3 : List (Int × Int × Int)) (ws4 : List Int) (t11 : List Int) (t12 : Int) (t13 : Int) : Tr (Lap ((List (Int × Int × Int)) × List Int × List Int × Int × Int) (List Int)) :=
  .br (decide (t13 < t12)) (
    .bnd (idx t11 t13) fun x_3 =>
    .br (decide (0 ≤ x_3)) (
      .br (decide (x_3 ≤ 1114111)) (
        .bnd (ranges_Find_F table3 x_3 1) fun c_4 =>
        .bnd (idx ws4 t13) fun x_5 =>
        .pure (.next (table3, ws4.set (Int.toNat t13) (IntKind.i64.wrap c_4), t11, t12, IntKind.i64.wrap (t13 + 1)))) (
        .pure (.next (table3, ws4, t11, t12, IntKind.i64.wrap (t13 + 1))))) (
      .pure (.next (table3, ws4, t11, t12, IntKind.i64.wrap (t13 + 1))))) (
    .pure (.done ws4))
noncomputable def cellw_Of_T (rs0 : List Int) : Tr (List Int) :=
  .bnd cellw_Table_F fun c_1 =>
  .bnd (mk 17592186044416 0 (rs0.length : Int)) fun r_2 =>
  .bnd (loopW (fun s => (cellw_Of_L4 s.1 s.2.1 s.2.2.1 s.2.2.2.1 s.2.2.2.2).run) (c_1, r_2, rs0, (rs0.length : Int), 0)) fun l_6 =>
  .pure l_6
noncomputable def cellw_Of_F (rs0 : List Int) : Option (List Int) := (cellw_Of_T rs0).run
def cellw_Of_L : List (Nat × LoopAnn) := [(4, { head := [.srow 3 1000003 32 true (.st (.pair (.int .i32) (.pair (.int .i32) (.int .u8)))), .srow 4 1000004 3 true (.int .i64), .sv 11 false (.sl (.int .i32)), .sv 12 true (.int .i64), .sv 13 true (.int .i64)], xid := 0, out := [.srow 4 1000004 3 true (.int .i64)], hasRet := false, res := [] })]
noncomputable def cellw_Of_C : List (Nat × Callee) := [(27, .plain cellw_Table_fun), (39, .plain ranges_Find_fun)]
noncomputable def cellw_Of_fun : Fun := ⟨[.sl (.int .i32)], [.row 3 (.int .i64)], fun x => cellw_Of_F x.1⟩
theorem cellw_Of_ev (x : Tys.I [.sl (.int .i32)]) : evFun G0 (fun f => olook f cellw_Of_C) ⟨[], [], []⟩ (fun i => olook i cellw_Of_L) Try.f26 [.sl (.int .i32)] [.row 3 (.int .i64)] x = cellw_Of_T x.1 := by kernel_rfl
theorem cellw_Of_ok : FunOk Try.prog 26 cellw_Of_fun := evFun_ok mixed ctx0 (cons_calls (fb := .plain cellw_Table_fun) cellw_Table_ok (fun h => by cases h) (cons_calls (fb := .plain ranges_Find_fun) ranges_Find_ok (fun h => by cases h) (no_calls))) Try.func26 (by kernel_rfl) _ (fun x => congrArg Tr.run (cellw_Of_ev x)) (by kernel_rfl) (by kernel_rfl)
/-! ### boustrophedon/cellw.Sum -/
noncomputable def cellw_Sum_L3 (sum3 : Int) (t6 : List Int) (t7 : Int) (t8 : Int) : Tr (Lap (Int × List Int × Int × Int) Int) :=
  .br (decide (t8 < t7)) (
    .bnd (idx t6 t8) fun x_1 =>
    .pure (.next (IntKind.i64.wrap (sum3 + x_1), t6, t7, IntKind.i64.wrap (t8 + 1)))) (
    .pure (.done sum3))
noncomputable def cellw_Sum_T (ws0 : List Int) : Tr Int :=
  .bnd (loopW (fun s => (cellw_Sum_L3 s.1 s.2.1 s.2.2.1 s.2.2.2).run) (0, ws0, (ws0.length : Int), 0)) fun l_2 =>
  .pure l_2
noncomputable def cellw_Sum_F (ws0 : List Int) : Option Int := (cellw_Sum_T ws0).run
def cellw_Sum_L : List (Nat × LoopAnn) := [(3, { head := [.sv 3 true (.int .i64), .sv 6 false (.sl (.int .i64)), .sv 7 true (.int .i64), .sv 8 true (.int .i64)], xid := 0, out := [.sv 3 true (.int .i64)], hasRet := false, res := [] })]
noncomputable def cellw_Sum_C : List (Nat × Callee) := []
noncomputable def cellw_Sum_fun : Fun := ⟨[.sl (.int .i64)], [.v (.int .i64)], fun x => cellw_Sum_F x.1⟩
theorem cellw_Sum_ev (x : Tys.I [.sl (.int .i64)]) : evFun G0 (fun f => olook f cellw_Sum_C) ⟨[], [], []⟩ (fun i => olook i cellw_Sum_L) Try.f29 [.sl (.int .i64)] [.v (.int .i64)] x = cellw_Sum_T x.1 := by kernel_rfl
theorem cellw_Sum_ok : FunOk Try.prog 29 cellw_Sum_fun := evFun_ok mixed ctx0 (no_calls) Try.func29 (by kernel_rfl) _ (fun x => congrArg Tr.run (cellw_Sum_ev x)) (by kernel_rfl) (by kernel_rfl)
/-! ### boustrophedon/boustrophedonlaw07.awake -/
noncomputable def law07_awake_T : Tr Bool :=
  .bnd (cellw_Of_F ([97, 768, 19968, 9])) fun c_1 =>
  .br ((c_1.length : Int) == 4) (
    .bnd (idx c_1 0) fun x_2 =>
    .br (x_2 == 1) (
      .bnd (idx c_1 1) fun x_3 =>
      .br (x_3 == 0) (
        .bnd (idx c_1 2) fun x_4 =>
        .br (x_4 == 2) (
          .bnd (idx c_1 3) fun x_5 =>
          .br (x_5 == 0) (
            .bnd (cellw_Sum_F c_1) fun c_6 =>
            .pure (c_6 == 3)) (
            .pure false)) (
          .pure false)) (
        .pure false)) (
      .pure false)) (
    .pure false)
noncomputable def law07_awake_F : Option Bool := (law07_awake_T).run
def law07_awake_L : List (Nat × LoopAnn) := []
noncomputable def law07_awake_C : List (Nat × Callee) := [(26, .plain cellw_Of_fun), (29, .plain cellw_Sum_fun)]
noncomputable def law07_awake_fun : Fun := ⟨[], [.v .bool], fun _ => law07_awake_F⟩
theorem law07_awake_ev (x : Tys.I []) : evFun G0 (fun f => olook f law07_awake_C) ⟨[], [], []⟩ (fun i => olook i law07_awake_L) Try.f25 [] [.v .bool] x = law07_awake_T := by kernel_rfl
theorem law07_awake_ok : FunOk Try.prog 25 law07_awake_fun := evFun_ok mixed ctx0 (cons_calls (fb := .plain cellw_Of_fun) cellw_Of_ok (fun h => by cases h) (cons_calls (fb := .plain cellw_Sum_fun) cellw_Sum_ok (fun h => by cases h) (no_calls))) Try.func25 (by kernel_rfl) _ (fun x => congrArg Tr.run (law07_awake_ev x)) (by kernel_rfl) (by kernel_rfl)
/-! ### boustrophedon/boustrophedonref04.Widths -/
noncomputable def ref04_Widths_T : Tr (List (List Int)) :=
  .pure ([[0, 31, 0], [127, 159, 0], [173, 173, 0], [768, 879, 0], [1155, 1161, 0], [1425, 1469, 0], [1471, 1471, 0], [1473, 1474, 0], [1476, 1477, 0], [1479, 1479, 0], [1536, 1541, 0], [1552, 1562, 0], [1564, 1564, 0], [1611, 1631, 0], [1648, 1648, 0], [1750, 1757, 0], [1759, 1764, 0], [1767, 1768, 0], [1770, 1773, 0], [1809, 1809, 0], [1840, 1866, 0], [1958, 1968, 0], [2027, 2035, 0], [2250, 2306, 0], [2362, 2362, 0], [2364, 2364, 0], [2369, 2376, 0], [2381, 2381, 0], [3633, 3633, 0], [3636, 3642, 0], [3655, 3662, 0], [4352, 4447, 2], [4448, 4607, 0], [8203, 8207, 0], [8232, 8238, 0], [8288, 8303, 0], [8400, 8432, 0], [8986, 8987, 2], [9001, 9002, 2], [9200, 9200, 2], [9203, 9203, 2], [9748, 9749, 2], [11904, 12287, 2], [12288, 12329, 2], [12330, 12333, 0], [12334, 12350, 2], [12353, 12440, 2], [12441, 12442, 0], [12443, 13311, 2], [13312, 19903, 2], [19968, 42191, 2], [43360, 43391, 2], [44032, 55203, 2], [63744, 64255, 2], [64286, 64286, 0], [65024, 65039, 0], [65040, 65049, 2], [65056, 65071, 0], [65072, 65135, 2], [65279, 65279, 0], [65281, 65376, 2], [65504, 65510, 2], [127462, 127487, 1], [127744, 128591, 2], [128640, 128767, 2], [129280, 129791, 2], [131072, 262141, 2], [917505, 917631, 0], [917760, 917999, 0]])
noncomputable def ref04_Widths_F : Option (List (List Int)) := (ref04_Widths_T).run
def ref04_Widths_L : List (Nat × LoopAnn) := []
noncomputable def ref04_Widths_C : List (Nat × Callee) := []
noncomputable def ref04_Widths_fun : Fun := ⟨[], [.row 33 (.arr 3 (.int .i64))], fun _ => ref04_Widths_F⟩
theorem ref04_Widths_ev (x : Tys.I []) : evFun G0 (fun f => olook f ref04_Widths_C) ⟨[], [], []⟩ (fun i => olook i ref04_Widths_L) Try.f28 [] [.row 33 (.arr 3 (.int .i64))] x = ref04_Widths_T := by kernel_rfl
theorem ref04_Widths_ok : FunOk Try.prog 28 ref04_Widths_fun := evFun_ok mixed ctx0 (no_calls) Try.func28 (by kernel_rfl) _ (fun x => congrArg Tr.run (ref04_Widths_ev x)) (by kernel_rfl) (by kernel_rfl)
/-! ### boustrophedon/boustrophedonlaw07.CellwOf -/
noncomputable def law07_CellwOf_L11 (rs0 : List Int) (ws5 : List Int) (want7 : List (List Int)) (j9 : Int) : Tr (Lap (List Int × List Int × List (List Int) × Int) (Sum Unit Bool)) :=
  .br (decide (j9 < (rs0.length : Int))) (
    .bnd (idx rs0 j9) fun x_15 =>
    .bnd (ref04_Find_F want7 (IntKind.i64.wrap x_15) 1) fun c_16 =>
    .bnd (idx rs0 j9) fun x_17 =>
    .br (decide (x_17 < 0)) (
      .bnd (idx ws5 j9) fun x_18 =>
      .br (x_18 != 0) (
        .pure (.done (.inr false))) (
        .pure (.next (rs0, ws5, want7, IntKind.i64.wrap (j9 + 1))))) (
      .bnd (idx rs0 j9) fun x_19 =>
      .br (decide (x_19 > 1114111)) (
        .bnd (idx ws5 j9) fun x_20 =>
        .br (x_20 != 0) (
          .pure (.done (.inr false))) (
          .pure (.next (rs0, ws5, want7, IntKind.i64.wrap (j9 + 1))))) (
        .bnd (idx ws5 j9) fun x_21 =>
        .br (x_21 != c_16) (
          .pure (.done (.inr false))) (
          .pure (.next (rs0, ws5, want7, IntKind.i64.wrap (j9 + 1))))))) (
    .pure (.done (.inl ())))
noncomputable def law07_CellwOf_T (rs0 : List Int) (k1 : Int) : Tr Bool :=
  .bnd law07_awake_F fun c_1 =>
  .br (!c_1) (
    .pure false) (
    .bnd (cellw_Of_F rs0) fun c_2 =>
    .bnd cellw_Table_F fun c_3 =>
    .bnd ref04_Widths_F fun c_4 =>
    .br ((c_2.length : Int) != (rs0.length : Int)) (
      .pure false) (
      .br ((c_3.length : Int) != (c_4.length : Int)) (
        .pure false) (
        .bnd (trie_Check_F c_3) fun c_5 =>
        .br c_5.isSome (
          .pure false) (
          .br ((c_3.length : Int) != 0) (
            .bnd (idx c_3 ((IntKind.i64.wrap k1).tmod (c_3.length : Int))) fun x_6 =>
            .bnd (idx c_4 ((IntKind.i64.wrap k1).tmod (c_3.length : Int))) fun x_7 =>
            .bnd (idx x_7 0) fun x_8 =>
            .br ((IntKind.i64.wrap x_6.1) != x_8) (
              .pure false) (
              .bnd (idx c_3 ((IntKind.i64.wrap k1).tmod (c_3.length : Int))) fun x_9 =>
              .bnd (idx c_4 ((IntKind.i64.wrap k1).tmod (c_3.length : Int))) fun x_10 =>
              .bnd (idx x_10 1) fun x_11 =>
              .br ((IntKind.i64.wrap x_9.2.1) != x_11) (
                .pure false) (
                .bnd (idx c_3 ((IntKind.i64.wrap k1).tmod (c_3.length : Int))) fun x_12 =>
                .bnd (idx c_4 ((IntKind.i64.wrap k1).tmod (c_3.length : Int))) fun x_13 =>
                .bnd (idx x_13 2) fun x_14 =>
                .br ((IntKind.i64.wrap x_12.2.2) != x_14) (
                  .pure false) (
                  .alt (loopW (fun s => (law07_CellwOf_L11 s.1 s.2.1 s.2.2.1 s.2.2.2).run) (rs0, c_2, c_4, 0)) (fun l_22 =>
                    .pure true) (fun l_23 =>
                    .pure l_23))))) (
            .fail)))))
noncomputable def law07_CellwOf_F (rs0 : List Int) (k1 : Int) : Option Bool := (law07_CellwOf_T rs0 k1).run
def law07_CellwOf_L : List (Nat × LoopAnn) := [(11, { head := [.sv 0 false (.sl (.int .i32)), .srow 5 1000005 3 true (.int .i64), .srow 7 1000007 33 true (.arr 3 (.int .i64)), .sv 9 true (.int .i64)], xid := 0, out := [], hasRet := true, res := [.sv 4 true .bool] })]
noncomputable def law07_CellwOf_C : List (Nat × Callee) := [(25, .plain law07_awake_fun), (26, .plain cellw_Of_fun), (27, .plain cellw_Table_fun), (28, .plain ref04_Widths_fun), (18, .plain trie_Check_fun), (20, .plain ref04_Find_fun)]
noncomputable def law07_CellwOf_fun : Fun := ⟨[.sl (.int .i32), .int .u16], [.v .bool], fun x => law07_CellwOf_F x.1 x.2.1⟩
theorem law07_CellwOf_ev (x : Tys.I [.sl (.int .i32), .int .u16]) : evFun G0 (fun f => olook f law07_CellwOf_C) ⟨[], [], []⟩ (fun i => olook i law07_CellwOf_L) Try.f8 [.sl (.int .i32), .int .u16] [.v .bool] x = law07_CellwOf_T x.1 x.2.1 := by kernel_rfl
theorem law07_CellwOf_ok : FunOk Try.prog 8 law07_CellwOf_fun := evFun_ok mixed ctx0 (cons_calls (fb := .plain law07_awake_fun) law07_awake_ok (fun h => by cases h) (cons_calls (fb := .plain cellw_Of_fun) cellw_Of_ok (fun h => by cases h) (cons_calls (fb := .plain cellw_Table_fun) cellw_Table_ok (fun h => by cases h) (cons_calls (fb := .plain ref04_Widths_fun) ref04_Widths_ok (fun h => by cases h) (cons_calls (fb := .plain trie_Check_fun) trie_Check_ok (fun h => by cases h) (cons_calls (fb := .plain ref04_Find_fun) ref04_Find_ok (fun h => by cases h) (no_calls))))))) Try.func8 (by kernel_rfl) _ (fun x => congrArg Tr.run (law07_CellwOf_ev x)) (by kernel_rfl) (by kernel_rfl)
/-! ### boustrophedon/boustrophedonlaw07.CellwSum -/
noncomputable def law07_CellwSum_L8 (a0 : List Int) (b1 : List Int) (all5 : List Int) (ws6 : List Int) (t20 : Int) (t21 : Int) : Tr (Lap (List Int × List Int × List Int × List Int × Int × Int) (Sum (List Int × List Int × List Int × List Int) Bool)) :=
  .br (decide (t21 < t20)) (
    .bnd (idx ws6 t21) fun x_5 =>
    .br (decide (x_5 < 0)) (
      .pure (.done (.inr false))) (
      .br (decide (x_5 > 2)) (
        .pure (.done (.inr false))) (
        .pure (.next (a0, b1, all5, ws6, t20, IntKind.i64.wrap (t21 + 1)))))) (
    .pure (.done (.inl (a0, b1, all5, ws6))))
noncomputable def law07_CellwSum_T (a0 : List Int) (b1 : List Int) : Tr Bool :=
  .bnd law07_awake_F fun c_1 =>
  .br (!c_1) (
    .pure false) (
    .bnd (app 35184372088832 [] a0) fun r_2 =>
    .bnd (app 35184372088832 r_2 b1) fun r_3 =>
    .bnd (cellw_Of_F r_3) fun c_4 =>
    .alt (loopW (fun s => (law07_CellwSum_L8 s.1 s.2.1 s.2.2.1 s.2.2.2.1 s.2.2.2.2.1 s.2.2.2.2.2).run) (a0, b1, r_3, c_4, (c_4.length : Int), 0)) (fun l_6 =>
      .bnd (cellw_Sum_F l_6.2.2.2) fun c_7 =>
      .bnd (cellw_Of_F l_6.1) fun c_8 =>
      .bnd (cellw_Sum_F c_8) fun c_9 =>
      .bnd (cellw_Of_F l_6.2.1) fun c_10 =>
      .bnd (cellw_Sum_F c_10) fun c_11 =>
      .br (c_7 == (IntKind.i64.wrap (c_9 + c_11))) (
        .bnd (cellw_Sum_F l_6.2.2.2) fun c_12 =>
        .pure (decide (c_12 ≤ (IntKind.i64.wrap (2 * (l_6.2.2.1.length : Int)))))) (
        .pure false)) (fun l_13 =>
      .pure l_13))
noncomputable def law07_CellwSum_F (a0 : List Int) (b1 : List Int) : Option Bool := (law07_CellwSum_T a0 b1).run
def law07_CellwSum_L : List (Nat × LoopAnn) := [(8, { head := [.sv 0 false (.sl (.int .i32)), .sv 1 false (.sl (.int .i32)), .srow 5 1000005 21 true (.int .i32), .srow 6 1000006 3 true (.int .i64), .sref 19 6 1000006, .sv 20 true (.int .i64), .sv 21 true (.int .i64)], xid := 0, out := [.sv 0 false (.sl (.int .i32)), .sv 1 false (.sl (.int .i32)), .srow 5 1000005 21 true (.int .i32), .srow 6 1000006 3 true (.int .i64)], hasRet := true, res := [.sv 4 true .bool] })]
noncomputable def law07_CellwSum_C : List (Nat × Callee) := [(25, .plain law07_awake_fun), (26, .plain cellw_Of_fun), (29, .plain cellw_Sum_fun)]
noncomputable def law07_CellwSum_fun : Fun := ⟨[.sl (.int .i32), .sl (.int .i32)], [.v .bool], fun x => law07_CellwSum_F x.1 x.2.1⟩
theorem law07_CellwSum_ev (x : Tys.I [.sl (.int .i32), .sl (.int .i32)]) : evFun G0 (fun f => olook f law07_CellwSum_C) ⟨[], [], []⟩ (fun i => olook i law07_CellwSum_L) Try.f9 [.sl (.int .i32), .sl (.int .i32)] [.v .bool] x = law07_CellwSum_T x.1 x.2.1 := by kernel_rfl
theorem law07_CellwSum_ok : FunOk Try.prog 9 law07_CellwSum_fun := evFun_ok mixed ctx0 (cons_calls (fb := .plain law07_awake_fun) law07_awake_ok (fun h => by cases h) (cons_calls (fb := .plain cellw_Of_fun) cellw_Of_ok (fun h => by cases h) (cons_calls (fb := .plain cellw_Sum_fun) cellw_Sum_ok (fun h => by cases h) (no_calls)))) Try.func9 (by kernel_rfl) _ (fun x => congrArg Tr.run (law07_CellwSum_ev x)) (by kernel_rfl) (by kernel_rfl)
/-! ### boustrophedon/boustrophedonlaw07.CellwParts -/
noncomputable def law07_CellwParts_T (rs0 : List Int) (k1 : Int) : Tr Bool :=
  .bnd law07_awake_F fun c_1 =>
  .br (!c_1) (
    .pure false) (
    .bnd (cellw_Of_F ([IntKind.i32.wrap (IntKind.i64.wrap (97 + ((IntKind.i64.wrap k1).tmod 26))), IntKind.i32.wrap (IntKind.i64.wrap (48 + ((IntKind.i64.wrap k1).tmod 10))), IntKind.i32.wrap (IntKind.i64.wrap (44032 + ((IntKind.i64.wrap k1).tmod 11172)))])) fun c_2 =>
    .br ((c_2.length : Int) != 3) (
      .pure false) (
      .bnd (idx c_2 0) fun x_3 =>
      .br (x_3 != 1) (
        .pure false) (
        .bnd (idx c_2 1) fun x_4 =>
        .br (x_4 != 1) (
          .pure false) (
          .bnd (idx c_2 2) fun x_5 =>
          .br (x_5 != 2) (
            .pure false) (
            .br ((rs0.length : Int) == 0) (
              .bnd (cellw_Of_F rs0) fun c_6 =>
              .pure ((c_6.length : Int) == 0)) (
              .br ((rs0.length : Int) != 0) (
                .bnd (cellw_Of_F rs0) fun c_7 =>
                .bnd (cut rs0 ((IntKind.i64.wrap k1).tmod (rs0.length : Int)) (IntKind.i64.wrap (((IntKind.i64.wrap k1).tmod (rs0.length : Int)) + 1))) fun r_8 =>
                .bnd (cellw_Of_F r_8) fun c_9 =>
                .br ((c_7.length : Int) == (rs0.length : Int)) (
                  .br ((c_9.length : Int) == 1) (
                    .bnd (idx c_7 ((IntKind.i64.wrap k1).tmod (rs0.length : Int))) fun x_10 =>
                    .bnd (idx c_9 0) fun x_11 =>
                    .pure (x_10 == x_11)) (
                    .pure false)) (
                  .pure false)) (
                .fail)))))))
noncomputable def law07_CellwParts_F (rs0 : List Int) (k1 : Int) : Option Bool := (law07_CellwParts_T rs0 k1).run
def law07_CellwParts_L : List (Nat × LoopAnn) := []
noncomputable def law07_CellwParts_C : List (Nat × Callee) := [(25, .plain law07_awake_fun), (26, .plain cellw_Of_fun)]
noncomputable def law07_CellwParts_fun : Fun := ⟨[.sl (.int .i32), .int .u16], [.v .bool], fun x => law07_CellwParts_F x.1 x.2.1⟩
theorem law07_CellwParts_ev (x : Tys.I [.sl (.int .i32), .int .u16]) : evFun G0 (fun f => olook f law07_CellwParts_C) ⟨[], [], []⟩ (fun i => olook i law07_CellwParts_L) Try.f10 [.sl (.int .i32), .int .u16] [.v .bool] x = law07_CellwParts_T x.1 x.2.1 := by kernel_rfl
theorem law07_CellwParts_ok : FunOk Try.prog 10 law07_CellwParts_fun := evFun_ok mixed ctx0 (cons_calls (fb := .plain law07_awake_fun) law07_awake_ok (fun h => by cases h) (cons_calls (fb := .plain cellw_Of_fun) cellw_Of_ok (fun h => by cases h) (no_calls))) Try.func10 (by kernel_rfl) _ (fun x => congrArg Tr.run (law07_CellwParts_ev x)) (by kernel_rfl) (by kernel_rfl)
/-! ### boustrophedon/lbone.Class -/
noncomputable def lbone_Class_T (c0 : Int) : Tr Int :=
  .br (c0 == 39) (
    .pure 1) (
    .br (c0 == 41) (
      .pure 1) (
      .br (c0 == 0) (
        .pure 1) (
        .br (c0 == 40) (
          .pure 1) (
          .br (c0 == 42) (
            .pure 18) (
            .pure c0)))))
noncomputable def lbone_Class_F (c0 : Int) : Option Int := (lbone_Class_T c0).run
def lbone_Class_L : List (Nat × LoopAnn) := []
noncomputable def lbone_Class_C : List (Nat × Callee) := []
noncomputable def lbone_Class_fun : Fun := ⟨[.int .u8], [.v (.int .u8)], fun x => lbone_Class_F x.1⟩
theorem lbone_Class_ev (x : Tys.I [.int .u8]) : evFun G0 (fun f => olook f lbone_Class_C) ⟨[], [], []⟩ (fun i => olook i lbone_Class_L) Try.f36 [.int .u8] [.v (.int .u8)] x = lbone_Class_T x.1 := by kernel_rfl
theorem lbone_Class_ok : FunOk Try.prog 36 lbone_Class_fun := evFun_ok mixed ctx0 (no_calls) Try.func36 (by kernel_rfl) _ (fun x => congrArg Tr.run (lbone_Class_ev x)) (by kernel_rfl) (by kernel_rfl)
/-! ### boustrophedon/lbone.isMark -/
noncomputable def lbone_isMark_T (cs0 : List Int) (widths1 : List Int) (i2 : Int) : Tr Bool :=
  .bnd (idx cs0 i2) fun x_1 =>
  .br (x_1 == 3) (
    .pure true) (
    .br (x_1 == 4) (
      .pure true) (
      .br (x_1 == 40) (
        .br (decide (i2 < (widths1.length : Int))) (
          .bnd (idx widths1 i2) fun x_2 =>
          .pure (x_2 == 0)) (
          .pure false)) (
        .pure false)))
noncomputable def lbone_isMark_F (cs0 : List Int) (widths1 : List Int) (i2 : Int) : Option Bool := (lbone_isMark_T cs0 widths1 i2).run
def lbone_isMark_L : List (Nat × LoopAnn) := []
noncomputable def lbone_isMark_C : List (Nat × Callee) := []
noncomputable def lbone_isMark_fun : Fun := ⟨[.sl (.int .u8), .sl (.int .i64), .int .i64], [.v .bool], fun x => lbone_isMark_F x.1 x.2.1 x.2.2.1⟩
theorem lbone_isMark_ev (x : Tys.I [.sl (.int .u8), .sl (.int .i64), .int .i64]) : evFun G0 (fun f => olook f lbone_isMark_C) ⟨[], [], []⟩ (fun i => olook i lbone_isMark_L) Try.f41 [.sl (.int .u8), .sl (.int .i64), .int .i64] [.v .bool] x = lbone_isMark_T x.1 x.2.1 x.2.2.1 := by kernel_rfl
theorem lbone_isMark_ok : FunOk Try.prog 41 lbone_isMark_fun := evFun_ok mixed ctx0 (no_calls) Try.func41 (by kernel_rfl) _ (fun x => congrArg Tr.run (lbone_isMark_ev x)) (by kernel_rfl) (by kernel_rfl)
/-! ### boustrophedon/lbone.takesMarks -/
noncomputable def lbone_takesMarks_T (c0 : Int) : Tr Bool :=
  .br (c0 == 5) (
    .pure false) (
    .br (c0 == 6) (
      .pure false) (
      .br (c0 == 7) (
        .pure false) (
        .br (c0 == 8) (
          .pure false) (
          .br (c0 == 9) (
            .pure false) (
            .br (c0 == 10) (
              .pure false) (
              .pure true))))))
noncomputable def lbone_takesMarks_F (c0 : Int) : Option Bool := (lbone_takesMarks_T c0).run
def lbone_takesMarks_L : List (Nat × LoopAnn) := []
noncomputable def lbone_takesMarks_C : List (Nat × Callee) := []
noncomputable def lbone_takesMarks_fun : Fun := ⟨[.int .u8], [.v .bool], fun x => lbone_takesMarks_F x.1⟩
theorem lbone_takesMarks_ev (x : Tys.I [.int .u8]) : evFun G0 (fun f => olook f lbone_takesMarks_C) ⟨[], [], []⟩ (fun i => olook i lbone_takesMarks_L) Try.f42 [.int .u8] [.v .bool] x = lbone_takesMarks_T x.1 := by kernel_rfl
theorem lbone_takesMarks_ok : FunOk Try.prog 42 lbone_takesMarks_fun := evFun_ok mixed ctx0 (no_calls) Try.func42 (by kernel_rfl) _ (fun x => congrArg Tr.run (lbone_takesMarks_ev x)) (by kernel_rfl) (by kernel_rfl)
/-! ### boustrophedon/lbone.Units -/
noncomputable def lbone_Units_L3 (cs0 : List Int) (widths1 : List Int) (us5 : List (Int × Int × Int × Bool)) (t12 : Int) (t13 : Int) : Tr (Lap (List Int × List Int × (List (Int × Int × Int × Bool)) × Int × Int) (List (Int × Int × Int × Bool))) :=
  .br (decide (t13 < t12)) (
    .bnd (lbone_isMark_F cs0 widths1 t13) fun c_1 =>
    .bnd (idx cs0 t13) fun x_2 =>
    .br c_1 (
      .br (decide ((IntKind.i64.wrap ((us5.length : Int) - 1)) ≥ 0)) (
        .bnd (idx us5 (IntKind.i64.wrap ((us5.length : Int) - 1))) fun x_3 =>
        .bnd (lbone_takesMarks_F x_3.2.2.1) fun c_4 =>
        .br c_4 (
          .bnd (idx us5 (IntKind.i64.wrap ((us5.length : Int) - 1))) fun x_5 =>
          .bnd (idx us5 (IntKind.i64.wrap ((us5.length : Int) - 1))) fun x_6 =>
          .bnd (idx (us5.set (Int.toNat (IntKind.i64.wrap ((us5.length : Int) - 1))) (x_6.1, IntKind.i64.wrap (t13 + 1), x_6.2.2)) (IntKind.i64.wrap ((us5.length : Int) - 1))) fun x_7 =>
          .bnd (idx (us5.set (Int.toNat (IntKind.i64.wrap ((us5.length : Int) - 1))) (x_6.1, IntKind.i64.wrap (t13 + 1), x_6.2.2)) (IntKind.i64.wrap ((us5.length : Int) - 1))) fun x_8 =>
          .pure (.next (cs0, widths1, (us5.set (Int.toNat (IntKind.i64.wrap ((us5.length : Int) - 1))) (x_6.1, IntKind.i64.wrap (t13 + 1), x_6.2.2)).set (Int.toNat (IntKind.i64.wrap ((us5.length : Int) - 1))) (x_8.1, x_8.2.1, x_8.2.2.1, x_2 == 4), t12, IntKind.i64.wrap (t13 + 1)))) (
          .bnd (idx cs0 t13) fun x_9 =>
          .bnd (lbone_Class_F x_9) fun c_10 =>
          .br c_1 (
            .bnd (app 5864062014805 us5 ([(t13, IntKind.i64.wrap (t13 + 1), 1, x_2 == 4)])) fun r_11 =>
            .pure (.next (cs0, widths1, r_11, t12, IntKind.i64.wrap (t13 + 1)))) (
            .bnd (app 5864062014805 us5 ([(t13, IntKind.i64.wrap (t13 + 1), c_10, x_2 == 4)])) fun r_12 =>
            .pure (.next (cs0, widths1, r_12, t12, IntKind.i64.wrap (t13 + 1)))))) (
        .bnd (idx cs0 t13) fun x_13 =>
        .bnd (lbone_Class_F x_13) fun c_14 =>
        .br c_1 (
          .bnd (app 5864062014805 us5 ([(t13, IntKind.i64.wrap (t13 + 1), 1, x_2 == 4)])) fun r_15 =>
          .pure (.next (cs0, widths1, r_15, t12, IntKind.i64.wrap (t13 + 1)))) (
          .bnd (app 5864062014805 us5 ([(t13, IntKind.i64.wrap (t13 + 1), c_14, x_2 == 4)])) fun r_16 =>
          .pure (.next (cs0, widths1, r_16, t12, IntKind.i64.wrap (t13 + 1)))))) (
      .bnd (idx cs0 t13) fun x_17 =>
      .bnd (lbone_Class_F x_17) fun c_18 =>
      .br c_1 (
        .bnd (app 5864062014805 us5 ([(t13, IntKind.i64.wrap (t13 + 1), 1, x_2 == 4)])) fun r_19 =>
        .pure (.next (cs0, widths1, r_19, t12, IntKind.i64.wrap (t13 + 1)))) (
        .bnd (app 5864062014805 us5 ([(t13, IntKind.i64.wrap (t13 + 1), c_18, x_2 == 4)])) fun r_20 =>
        .pure (.next (cs0, widths1, r_20, t12, IntKind.i64.wrap (t13 + 1)))))) (
    .pure (.done us5))
noncomputable def lbone_Units_T (cs0 : List Int) (widths1 : List Int) : Tr (List (Int × Int × Int × Bool)) :=
  .bnd (loopW (fun s => (lbone_Units_L3 s.1 s.2.1 s.2.2.1 s.2.2.2.1 s.2.2.2.2).run) (cs0, widths1, [], (cs0.length : Int), 0)) fun l_21 =>
  .pure l_21
noncomputable def lbone_Units_F (cs0 : List Int) (widths1 : List Int) : Option (List (Int × Int × Int × Bool)) := (lbone_Units_T cs0 widths1).run
def lbone_Units_L : List (Nat × LoopAnn) := [(3, { head := [.sv 0 false (.sl (.int .u8)), .sv 1 false (.sl (.int .i64)), .srow 5 1000005 55 true (.st (.pair (.int .i64) (.pair (.int .i64) (.pair (.int .u8) .bool)))), .sv 12 true (.int .i64), .sv 13 true (.int .i64)], xid := 0, out := [.srow 5 1000005 55 true (.st (.pair (.int .i64) (.pair (.int .i64) (.pair (.int .u8) .bool))))], hasRet := false, res := [] })]
noncomputable def lbone_Units_C : List (Nat × Callee) := [(41, .plain lbone_isMark_fun), (42, .plain lbone_takesMarks_fun), (36, .plain lbone_Class_fun)]
noncomputable def lbone_Units_fun : Fun := ⟨[.sl (.int .u8), .sl (.int .i64)], [.row 55 (.st (.pair (.int .i64) (.pair (.int .i64) (.pair (.int .u8) .bool))))], fun x => lbone_Units_F x.1 x.2.1⟩
theorem lbone_Units_ev (x : Tys.I [.sl (.int .u8), .sl (.int .i64)]) : evFun G0 (fun f => olook f lbone_Units_C) ⟨[], [], []⟩ (fun i => olook i lbone_Units_L) Try.f32 [.sl (.int .u8), .sl (.int .i64)] [.row 55 (.st (.pair (.int .i64) (.pair (.int .i64) (.pair (.int .u8) .bool))))] x = lbone_Units_T x.1 x.2.1 := by kernel_rfl
theorem lbone_Units_ok : FunOk Try.prog 32 lbone_Units_fun := evFun_ok mixed ctx0 (cons_calls (fb := .plain lbone_isMark_fun) lbone_isMark_ok (fun h => by cases h) (cons_calls (fb := .plain lbone_takesMarks_fun) lbone_takesMarks_ok (fun h => by cases h) (cons_calls (fb := .plain lbone_Class_fun) lbone_Class_ok (fun h => by cases h) (no_calls)))) Try.func32 (by kernel_rfl) _ (fun x => congrArg Tr.run (lbone_Units_ev x)) (by kernel_rfl) (by kernel_rfl)
/-! ### boustrophedon/boustrophedonlaw19.awake -/
noncomputable def law19_awake_T : Tr Bool :=
  .bnd (lbone_Units_F ([1, 3, 4, 9, 3]) ([])) fun c_1 =>
  .br ((c_1.length : Int) == 3) (
    .bnd (idx c_1 0) fun x_2 =>
    .br ((x_2.1 == 0) && ((x_2.2.1 == 3) && ((x_2.2.2.1 == 1) && (x_2.2.2.2 == true)))) (
      .bnd (idx c_1 1) fun x_3 =>
      .br ((x_3.1 == 3) && ((x_3.2.1 == 4) && ((x_3.2.2.1 == 9) && (x_3.2.2.2 == false)))) (
        .bnd (idx c_1 2) fun x_4 =>
        .pure ((x_4.1 == 4) && ((x_4.2.1 == 5) && ((x_4.2.2.1 == 1) && (x_4.2.2.2 == false))))) (
        .pure false)) (
      .pure false)) (
    .pure false)
noncomputable def law19_awake_F : Option Bool := (law19_awake_T).run
def law19_awake_L : List (Nat × LoopAnn) := []
noncomputable def law19_awake_C : List (Nat × Callee) := [(32, .plain lbone_Units_fun)]
noncomputable def law19_awake_fun : Fun := ⟨[], [.v .bool], fun _ => law19_awake_F⟩
theorem law19_awake_ev (x : Tys.I []) : evFun G0 (fun f => olook f law19_awake_C) ⟨[], [], []⟩ (fun i => olook i law19_awake_L) Try.f30 [] [.v .bool] x = law19_awake_T := by kernel_rfl
theorem law19_awake_ok : FunOk Try.prog 30 law19_awake_fun := evFun_ok mixed ctx0 (cons_calls (fb := .plain lbone_Units_fun) lbone_Units_ok (fun h => by cases h) (no_calls)) Try.func30 (by kernel_rfl) _ (fun x => congrArg Tr.run (law19_awake_ev x)) (by kernel_rfl) (by kernel_rfl)
/-! ### boustrophedon/boustrophedonlaw19.Classes -/
noncomputable def law19_Classes_L3 (ns0 : List Int) (out3 : List Int) (k4 : Int) : Tr (Lap (List Int × List Int × Int) (List Int)) :=
  .br (decide (k4 < (ns0.length : Int))) (
    .bnd (idx ns0 k4) fun x_1 =>
    .bnd (app 140737488355328 out3 ([x_1.tmod 43])) fun r_2 =>
    .pure (.next (ns0, r_2, IntKind.i64.wrap (k4 + 1)))) (
    .pure (.done out3))
noncomputable def law19_Classes_T (ns0 : List Int) : Tr (List Int) :=
  .bnd (loopW (fun s => (law19_Classes_L3 s.1 s.2.1 s.2.2).run) (ns0, [], 0)) fun l_3 =>
  .pure l_3
noncomputable def law19_Classes_F (ns0 : List Int) : Option (List Int) := (law19_Classes_T ns0).run
def law19_Classes_L : List (Nat × LoopAnn) := [(3, { head := [.sv 0 false (.sl (.int .u8)), .srow 3 1000003 53 true (.int .u8), .sv 4 true (.int .i64)], xid := 0, out := [.srow 3 1000003 53 true (.int .u8)], hasRet := false, res := [] })]
noncomputable def law19_Classes_C : List (Nat × Callee) := []
noncomputable def law19_Classes_fun : Fun := ⟨[.sl (.int .u8)], [.row 53 (.int .u8)], fun x => law19_Classes_F x.1⟩
theorem law19_Classes_ev (x : Tys.I [.sl (.int .u8)]) : evFun G0 (fun f => olook f law19_Classes_C) ⟨[], [], []⟩ (fun i => olook i law19_Classes_L) Try.f31 [.sl (.int .u8)] [.row 53 (.int .u8)] x = law19_Classes_T x.1 := by kernel_rfl
theorem law19_Classes_ok : FunOk Try.prog 31 law19_Classes_fun := evFun_ok mixed ctx0 (no_calls) Try.func31 (by kernel_rfl) _ (fun x => congrArg Tr.run (law19_Classes_ev x)) (by kernel_rfl) (by kernel_rfl)
/-! ### boustrophedon/boustrophedonlaw19.class -/
noncomputable def law19_class_T (c0 : Int) : Tr Int :=
  .br (c0 == 39) (
    .pure 1) (
    .br (c0 == 41) (
      .pure 1) (
      .br (c0 == 0) (
        .pure 1) (
        .br (c0 == 40) (
          .pure 1) (
          .br (c0 == 42) (
            .pure 18) (
            .pure c0)))))
noncomputable def law19_class_F (c0 : Int) : Option Int := (law19_class_T c0).run
def law19_class_L : List (Nat × LoopAnn) := []
noncomputable def law19_class_C : List (Nat × Callee) := []
noncomputable def law19_class_fun : Fun := ⟨[.int .u8], [.v (.int .u8)], fun x => law19_class_F x.1⟩
theorem law19_class_ev (x : Tys.I [.int .u8]) : evFun G0 (fun f => olook f law19_class_C) ⟨[], [], []⟩ (fun i => olook i law19_class_L) Try.f33 [.int .u8] [.v (.int .u8)] x = law19_class_T x.1 := by kernel_rfl
theorem law19_class_ok : FunOk Try.prog 33 law19_class_fun := evFun_ok mixed ctx0 (no_calls) Try.func33 (by kernel_rfl) _ (fun x => congrArg Tr.run (law19_class_ev x)) (by kernel_rfl) (by kernel_rfl)
/-! ### boustrophedon/boustrophedonlaw19.mark -/
noncomputable def law19_mark_T (cs0 : List Int) (widths1 : List Int) (k2 : Int) : Tr Bool :=
  .bnd (idx cs0 k2) fun x_1 =>
  .br (x_1 == 3) (
    .pure true) (
    .bnd (idx cs0 k2) fun x_2 =>
    .br (x_2 == 4) (
      .pure true) (
      .bnd (idx cs0 k2) fun x_3 =>
      .br (x_3 == 40) (
        .br (decide (k2 < (widths1.length : Int))) (
          .bnd (idx widths1 k2) fun x_4 =>
          .pure (x_4 == 0)) (
          .pure false)) (
        .pure false)))
noncomputable def law19_mark_F (cs0 : List Int) (widths1 : List Int) (k2 : Int) : Option Bool := (law19_mark_T cs0 widths1 k2).run
def law19_mark_L : List (Nat × LoopAnn) := []
noncomputable def law19_mark_C : List (Nat × Callee) := []
noncomputable def law19_mark_fun : Fun := ⟨[.sl (.int .u8), .sl (.int .i64), .int .i64], [.v .bool], fun x => law19_mark_F x.1 x.2.1 x.2.2.1⟩
theorem law19_mark_ev (x : Tys.I [.sl (.int .u8), .sl (.int .i64), .int .i64]) : evFun G0 (fun f => olook f law19_mark_C) ⟨[], [], []⟩ (fun i => olook i law19_mark_L) Try.f34 [.sl (.int .u8), .sl (.int .i64), .int .i64] [.v .bool] x = law19_mark_T x.1 x.2.1 x.2.2.1 := by kernel_rfl
theorem law19_mark_ok : FunOk Try.prog 34 law19_mark_fun := evFun_ok mixed ctx0 (no_calls) Try.func34 (by kernel_rfl) _ (fun x => congrArg Tr.run (law19_mark_ev x)) (by kernel_rfl) (by kernel_rfl)
/-! ### boustrophedon/boustrophedonlaw19.apart -/
noncomputable def law19_apart_T (c0 : Int) : Tr Bool :=
  .br (c0 == 5) (
    .pure true) (
    .br (c0 == 6) (
      .pure true) (
      .br (c0 == 7) (
        .pure true) (
        .br (c0 == 8) (
          .pure true) (
          .br (c0 == 9) (
            .pure true) (
            .pure (c0 == 10))))))
noncomputable def law19_apart_F (c0 : Int) : Option Bool := (law19_apart_T c0).run
def law19_apart_L : List (Nat × LoopAnn) := []
noncomputable def law19_apart_C : List (Nat × Callee) := []
noncomputable def law19_apart_fun : Fun := ⟨[.int .u8], [.v .bool], fun x => law19_apart_F x.1⟩
theorem law19_apart_ev (x : Tys.I [.int .u8]) : evFun G0 (fun f => olook f law19_apart_C) ⟨[], [], []⟩ (fun i => olook i law19_apart_L) Try.f35 [.int .u8] [.v .bool] x = law19_apart_T x.1 := by kernel_rfl
theorem law19_apart_ok : FunOk Try.prog 35 law19_apart_fun := evFun_ok mixed ctx0 (no_calls) Try.func35 (by kernel_rfl) _ (fun x => congrArg Tr.run (law19_apart_ev x)) (by kernel_rfl) (by kernel_rfl)
/-! ### boustrophedon/boustrophedonlaw19.LboneUnits -/
noncomputable def law19_LboneUnits_L16 (widths1 : List Int) (cs5 : List Int) (u8 : Int × Int × Int × Bool) (k10 : Int) (t17 : List (Int × Int × Int × Bool)) (t18 : Int) (t19 : Int) : Tr (Lap (List Int × List Int × (Int × Int × Int × Bool) × Int × (List (Int × Int × Int × Bool)) × Int × Int) (Sum (List Int × List Int × (Int × Int × Int × Bool) × (List (Int × Int × Int × Bool)) × Int × Int) Bool)) :=
  .bnd (idx ([u8]) 0) fun x_18 =>
  .br (decide (k10 < x_18.2.1)) (
    .bnd (law19_mark_F cs5 widths1 k10) fun c_19 =>
    .br (!c_19) (
      .pure (.done (.inr false))) (
      .pure (.next (widths1, cs5, u8, IntKind.i64.wrap (k10 + 1), t17, t18, t19)))) (
    .pure (.done (.inl (widths1, cs5, u8, t17, t18, t19))))
noncomputable def law19_LboneUnits_L6 (widths1 : List Int) (cs5 : List Int) (at6 : Int) (t17 : List (Int × Int × Int × Bool)) (t18 : Int) (t19 : Int) : Tr (Lap (List Int × List Int × Int × (List (Int × Int × Int × Bool)) × Int × Int) (Sum (List Int × Int) Bool)) :=
  .br (decide (t19 < t18)) (
    .bnd (idx t17 t19) fun x_4 =>
    .bnd (idx ([x_4]) 0) fun x_5 =>
    .br (x_5.1 != at6) (
      .pure (.done (.inr false))) (
      .bnd (idx ([x_4]) 0) fun x_6 =>
      .br (decide (x_6.2.1 ≤ at6)) (
        .pure (.done (.inr false))) (
        .bnd (idx ([x_4]) 0) fun x_7 =>
        .br (decide (x_7.2.1 > (cs5.length : Int))) (
          .pure (.done (.inr false))) (
          .bnd (idx ([x_4]) 0) fun x_8 =>
          .bnd (idx cs5 x_8.1) fun x_9 =>
          .bnd (law19_class_F x_9) fun c_10 =>
          .bnd (idx ([x_4]) 0) fun x_11 =>
          .bnd (law19_mark_F cs5 widths1 x_11.1) fun c_12 =>
          .br c_12 (
            .bnd (idx ([x_4]) 0) fun x_13 =>
            .br (x_13.2.2.1 != 1) (
              .pure (.done (.inr false))) (
              .bnd (idx ([x_4]) 0) fun x_14 =>
              .bnd (idx ([x_4]) 0) fun x_15 =>
              .bnd (idx cs5 (IntKind.i64.wrap (x_15.2.1 - 1))) fun x_16 =>
              .br (!(x_14.2.2.2 == (x_16 == 4))) (
                .pure (.done (.inr false))) (
                .bnd (idx ([x_4]) 0) fun x_17 =>
                .alt (loopW (fun s => (law19_LboneUnits_L16 s.1 s.2.1 s.2.2.1 s.2.2.2.1 s.2.2.2.2.1 s.2.2.2.2.2.1 s.2.2.2.2.2.2).run) (widths1, cs5, x_4, IntKind.i64.wrap (x_17.1 + 1), t17, t18, t19)) (fun l_20 =>
                  .bnd (idx ([l_20.2.2.1]) 0) fun x_21 =>
                  .bnd (idx ([l_20.2.2.1]) 0) fun x_22 =>
                  .br (decide ((IntKind.i64.wrap (x_21.2.1 - x_22.1)) > 1)) (
                    .bnd (idx ([l_20.2.2.1]) 0) fun x_23 =>
                    .bnd (idx l_20.2.1 x_23.1) fun x_24 =>
                    .bnd (law19_apart_F x_24) fun c_25 =>
                    .br c_25 (
                      .pure (.done (.inr false))) (
                      .bnd (idx ([l_20.2.2.1]) 0) fun x_26 =>
                      .br (decide (x_26.2.1 < (l_20.2.1.length : Int))) (
                        .bnd (idx ([l_20.2.2.1]) 0) fun x_27 =>
                        .bnd (law19_mark_F l_20.2.1 l_20.1 x_27.2.1) fun c_28 =>
                        .br c_28 (
                          .bnd (idx ([l_20.2.2.1]) 0) fun x_29 =>
                          .bnd (idx l_20.2.1 x_29.1) fun x_30 =>
                          .bnd (law19_apart_F x_30) fun c_31 =>
                          .br (!c_31) (
                            .pure (.done (.inr false))) (
                            .bnd (idx ([l_20.2.2.1]) 0) fun x_32 =>
                            .pure (.next (l_20.1, l_20.2.1, x_32.2.1, l_20.2.2.2.1, l_20.2.2.2.2.1, IntKind.i64.wrap (l_20.2.2.2.2.2 + 1))))) (
                          .bnd (idx ([l_20.2.2.1]) 0) fun x_33 =>
                          .pure (.next (l_20.1, l_20.2.1, x_33.2.1, l_20.2.2.2.1, l_20.2.2.2.2.1, IntKind.i64.wrap (l_20.2.2.2.2.2 + 1))))) (
                        .bnd (idx ([l_20.2.2.1]) 0) fun x_34 =>
                        .pure (.next (l_20.1, l_20.2.1, x_34.2.1, l_20.2.2.2.1, l_20.2.2.2.2.1, IntKind.i64.wrap (l_20.2.2.2.2.2 + 1)))))) (
                    .bnd (idx ([l_20.2.2.1]) 0) fun x_35 =>
                    .br (decide (x_35.2.1 < (l_20.2.1.length : Int))) (
                      .bnd (idx ([l_20.2.2.1]) 0) fun x_36 =>
                      .bnd (law19_mark_F l_20.2.1 l_20.1 x_36.2.1) fun c_37 =>
                      .br c_37 (
                        .bnd (idx ([l_20.2.2.1]) 0) fun x_38 =>
                        .bnd (idx l_20.2.1 x_38.1) fun x_39 =>
                        .bnd (law19_apart_F x_39) fun c_40 =>
                        .br (!c_40) (
                          .pure (.done (.inr false))) (
                          .bnd (idx ([l_20.2.2.1]) 0) fun x_41 =>
                          .pure (.next (l_20.1, l_20.2.1, x_41.2.1, l_20.2.2.2.1, l_20.2.2.2.2.1, IntKind.i64.wrap (l_20.2.2.2.2.2 + 1))))) (
                        .bnd (idx ([l_20.2.2.1]) 0) fun x_42 =>
                        .pure (.next (l_20.1, l_20.2.1, x_42.2.1, l_20.2.2.2.1, l_20.2.2.2.2.1, IntKind.i64.wrap (l_20.2.2.2.2.2 + 1))))) (
                      .bnd (idx ([l_20.2.2.1]) 0) fun x_43 =>
                      .pure (.next (l_20.1, l_20.2.1, x_43.2.1, l_20.2.2.2.1, l_20.2.2.2.2.1, IntKind.i64.wrap (l_20.2.2.2.2.2 + 1)))))) (fun l_44 =>
                  .pure (.done (.inr l_44)))))) (
            .bnd (idx ([x_4]) 0) fun x_45 =>
            .br (x_45.2.2.1 != c_10) (
              .pure (.done (.inr false))) (
              .bnd (idx ([x_4]) 0) fun x_46 =>
              .bnd (idx ([x_4]) 0) fun x_47 =>
              .bnd (idx cs5 (IntKind.i64.wrap (x_47.2.1 - 1))) fun x_48 =>
              .br (!(x_46.2.2.2 == (x_48 == 4))) (
                .pure (.done (.inr false))) (
                .bnd (idx ([x_4]) 0) fun x_49 =>
                .alt (loopW (fun s => (law19_LboneUnits_L16 s.1 s.2.1 s.2.2.1 s.2.2.2.1 s.2.2.2.2.1 s.2.2.2.2.2.1 s.2.2.2.2.2.2).run) (widths1, cs5, x_4, IntKind.i64.wrap (x_49.1 + 1), t17, t18, t19)) (fun l_50 =>
                  .bnd (idx ([l_50.2.2.1]) 0) fun x_51 =>
                  .bnd (idx ([l_50.2.2.1]) 0) fun x_52 =>
                  .br (decide ((IntKind.i64.wrap (x_51.2.1 - x_52.1)) > 1)) (
                    .bnd (idx ([l_50.2.2.1]) 0) fun x_53 =>
                    .bnd (idx l_50.2.1 x_53.1) fun x_54 =>
                    .bnd (law19_apart_F x_54) fun c_55 =>
                    .br c_55 (
                      .pure (.done (.inr false))) (
                      .bnd (idx ([l_50.2.2.1]) 0) fun x_56 =>
                      .br (decide (x_56.2.1 < (l_50.2.1.length : Int))) (
                        .bnd (idx ([l_50.2.2.1]) 0) fun x_57 =>
                        .bnd (law19_mark_F l_50.2.1 l_50.1 x_57.2.1) fun c_58 =>
                        .br c_58 (
                          .bnd (idx ([l_50.2.2.1]) 0) fun x_59 =>
                          .bnd (idx l_50.2.1 x_59.1) fun x_60 =>
                          .bnd (law19_apart_F x_60) fun c_61 =>
                          .br (!c_61) (
                            .pure (.done (.inr false))) (
                            .bnd (idx ([l_50.2.2.1]) 0) fun x_62 =>
                            .pure (.next (l_50.1, l_50.2.1, x_62.2.1, l_50.2.2.2.1, l_50.2.2.2.2.1, IntKind.i64.wrap (l_50.2.2.2.2.2 + 1))))) (
                          .bnd (idx ([l_50.2.2.1]) 0) fun x_63 =>
                          .pure (.next (l_50.1, l_50.2.1, x_63.2.1, l_50.2.2.2.1, l_50.2.2.2.2.1, IntKind.i64.wrap (l_50.2.2.2.2.2 + 1))))) (
                        .bnd (idx ([l_50.2.2.1]) 0) fun x_64 =>
                        .pure (.next (l_50.1, l_50.2.1, x_64.2.1, l_50.2.2.2.1, l_50.2.2.2.2.1, IntKind.i64.wrap (l_50.2.2.2.2.2 + 1)))))) (
                    .bnd (idx ([l_50.2.2.1]) 0) fun x_65 =>
                    .br (decide (x_65.2.1 < (l_50.2.1.length : Int))) (
                      .bnd (idx ([l_50.2.2.1]) 0) fun x_66 =>
                      .bnd (law19_mark_F l_50.2.1 l_50.1 x_66.2.1) fun c_67 =>
                      .br c_67 (
                        .bnd (idx ([l_50.2.2.1]) 0) fun x_68 =>
                        .bnd (idx l_50.2.1 x_68.1) fun x_69 =>
                        .bnd (law19_apart_F x_69) fun c_70 =>
                        .br (!c_70) (
                          .pure (.done (.inr false))) (
                          .bnd (idx ([l_50.2.2.1]) 0) fun x_71 =>
                          .pure (.next (l_50.1, l_50.2.1, x_71.2.1, l_50.2.2.2.1, l_50.2.2.2.2.1, IntKind.i64.wrap (l_50.2.2.2.2.2 + 1))))) (
                        .bnd (idx ([l_50.2.2.1]) 0) fun x_72 =>
                        .pure (.next (l_50.1, l_50.2.1, x_72.2.1, l_50.2.2.2.1, l_50.2.2.2.2.1, IntKind.i64.wrap (l_50.2.2.2.2.2 + 1))))) (
                      .bnd (idx ([l_50.2.2.1]) 0) fun x_73 =>
                      .pure (.next (l_50.1, l_50.2.1, x_73.2.1, l_50.2.2.2.1, l_50.2.2.2.2.1, IntKind.i64.wrap (l_50.2.2.2.2.2 + 1)))))) (fun l_74 =>
                  .pure (.done (.inr l_74)))))))))) (
    .pure (.done (.inl (cs5, at6))))
noncomputable def law19_LboneUnits_T (ns0 : List Int) (widths1 : List Int) : Tr Bool :=
  .bnd law19_awake_F fun c_1 =>
  .br (!c_1) (
    .pure false) (
    .bnd (law19_Classes_F ns0) fun c_2 =>
    .bnd (lbone_Units_F c_2 widths1) fun c_3 =>
    .alt (loopW (fun s => (law19_LboneUnits_L6 s.1 s.2.1 s.2.2.1 s.2.2.2.1 s.2.2.2.2.1 s.2.2.2.2.2).run) (widths1, c_2, 0, c_3, (c_3.length : Int), 0)) (fun l_75 =>
      .pure (l_75.2 == (l_75.1.length : Int))) (fun l_76 =>
      .pure l_76))
noncomputable def law19_LboneUnits_F (ns0 : List Int) (widths1 : List Int) : Option Bool := (law19_LboneUnits_T ns0 widths1).run
def law19_LboneUnits_L : List (Nat × LoopAnn) := [(16, { head := [.sv 1 false (.sl (.int .i64)), .srow 5 1000005 53 true (.int .u8), .sbox 8 1000008 55 true (.st (.pair (.int .i64) (.pair (.int .i64) (.pair (.int .u8) .bool)))), .sv 10 true (.int .i64), .srow 17 1000017 55 true (.st (.pair (.int .i64) (.pair (.int .i64) (.pair (.int .u8) .bool)))), .sv 18 true (.int .i64), .sv 19 true (.int .i64)], xid := 2, out := [.sv 1 false (.sl (.int .i64)), .srow 5 1000005 53 true (.int .u8), .sbox 8 1000008 55 true (.st (.pair (.int .i64) (.pair (.int .i64) (.pair (.int .u8) .bool)))), .srow 17 1000017 55 true (.st (.pair (.int .i64) (.pair (.int .i64) (.pair (.int .u8) .bool)))), .sv 18 true (.int .i64), .sv 19 true (.int .i64)], hasRet := true, res := [.sv 4 true .bool] }), (6, { head := [.sv 1 false (.sl (.int .i64)), .srow 5 1000005 53 true (.int .u8), .sv 6 true (.int .i64), .srow 17 1000017 55 true (.st (.pair (.int .i64) (.pair (.int .i64) (.pair (.int .u8) .bool)))), .sv 18 true (.int .i64), .sv 19 true (.int .i64)], xid := 0, out := [.srow 5 1000005 53 true (.int .u8), .sv 6 true (.int .i64)], hasRet := true, res := [.sv 4 true .bool] })]
noncomputable def law19_LboneUnits_C : List (Nat × Callee) := [(30, .plain law19_awake_fun), (31, .plain law19_Classes_fun), (32, .plain lbone_Units_fun), (33, .plain law19_class_fun), (34, .plain law19_mark_fun), (35, .plain law19_apart_fun)]
noncomputable def law19_LboneUnits_fun : Fun := ⟨[.sl (.int .u8), .sl (.int .i64)], [.v .bool], fun x => law19_LboneUnits_F x.1 x.2.1⟩
theorem law19_LboneUnits_ev (x : Tys.I [.sl (.int .u8), .sl (.int .i64)]) : evFun G0 (fun f => olook f law19_LboneUnits_C) ⟨[], [], []⟩ (fun i => olook i law19_LboneUnits_L) Try.f11 [.sl (.int .u8), .sl (.int .i64)] [.v .bool] x = law19_LboneUnits_T x.1 x.2.1 := by kernel_rfl
theorem law19_LboneUnits_ok : FunOk Try.prog 11 law19_LboneUnits_fun := evFun_ok mixed ctx0 (cons_calls (fb := .plain law19_awake_fun) law19_awake_ok (fun h => by cases h) (cons_calls (fb := .plain law19_Classes_fun) law19_Classes_ok (fun h => by cases h) (cons_calls (fb := .plain lbone_Units_fun) lbone_Units_ok (fun h => by cases h) (cons_calls (fb := .plain law19_class_fun) law19_class_ok (fun h => by cases h) (cons_calls (fb := .plain law19_mark_fun) law19_mark_ok (fun h => by cases h) (cons_calls (fb := .plain law19_apart_fun) law19_apart_ok (fun h => by cases h) (no_calls))))))) Try.func11 (by kernel_rfl) _ (fun x => congrArg Tr.run (law19_LboneUnits_ev x)) (by kernel_rfl) (by kernel_rfl)
/-! ### boustrophedon/boustrophedonlaw19.LboneClass -/
noncomputable def law19_LboneClass_T (n0 : Int) : Tr Bool :=
  .bnd law19_awake_F fun c_1 =>
  .br (!c_1) (
    .pure false) (
    .bnd (lbone_Class_F n0) fun c_2 =>
    .bnd (law19_class_F n0) fun c_3 =>
    .br (c_2 == c_3) (
      .bnd (lbone_Class_F n0) fun c_4 =>
      .bnd (lbone_Class_F c_4) fun c_5 =>
      .bnd (lbone_Class_F n0) fun c_6 =>
      .pure (c_5 == c_6)) (
      .pure false))
noncomputable def law19_LboneClass_F (n0 : Int) : Option Bool := (law19_LboneClass_T n0).run
def law19_LboneClass_L : List (Nat × LoopAnn) := []
noncomputable def law19_LboneClass_C : List (Nat × Callee) := [(30, .plain law19_awake_fun), (36, .plain lbone_Class_fun), (33, .plain law19_class_fun)]
noncomputable def law19_LboneClass_fun : Fun := ⟨[.int .u8], [.v .bool], fun x => law19_LboneClass_F x.1⟩
theorem law19_LboneClass_ev (x : Tys.I [.int .u8]) : evFun G0 (fun f => olook f law19_LboneClass_C) ⟨[], [], []⟩ (fun i => olook i law19_LboneClass_L) Try.f12 [.int .u8] [.v .bool] x = law19_LboneClass_T x.1 := by kernel_rfl
theorem law19_LboneClass_ok : FunOk Try.prog 12 law19_LboneClass_fun := evFun_ok mixed ctx0 (cons_calls (fb := .plain law19_awake_fun) law19_awake_ok (fun h => by cases h) (cons_calls (fb := .plain lbone_Class_fun) lbone_Class_ok (fun h => by cases h) (cons_calls (fb := .plain law19_class_fun) law19_class_ok (fun h => by cases h) (no_calls)))) Try.func12 (by kernel_rfl) _ (fun x => congrArg Tr.run (law19_LboneClass_ev x)) (by kernel_rfl) (by kernel_rfl)
/-! ### boustrophedon/boustrophedonlaw19.LboneMarks -/
noncomputable def law19_LboneMarks_L8 (more1 : Int) (cs5 : List Int) (a6 : List (Int × Int × Int × Bool)) (k7 : Int) : Tr (Lap (Int × List Int × (List (Int × Int × Int × Bool)) × Int) (List Int × List (Int × Int × Int × Bool))) :=
  .br (decide (k7 < (IntKind.i64.wrap (more1.tmod 5)))) (
    .bnd (app 140737488355328 cs5 ([3])) fun r_6 =>
    .pure (.next (more1, r_6, a6, IntKind.i64.wrap (k7 + 1)))) (
    .pure (.done (cs5, a6)))
noncomputable def law19_LboneMarks_L15 (cs5 : List Int) (a6 : List (Int × Int × Int × Bool)) (b8 : List (Int × Int × Int × Bool)) (k9 : Int) : Tr (Lap (List Int × (List (Int × Int × Int × Bool)) × (List (Int × Int × Int × Bool)) × Int) (Sum (List Int × (List (Int × Int × Int × Bool)) × List (Int × Int × Int × Bool)) Bool)) :=
  .br (decide (k9 < (IntKind.i64.wrap ((a6.length : Int) - 1)))) (
    .bnd (idx a6 k9) fun x_9 =>
    .bnd (idx b8 k9) fun x_10 =>
    .br (!((x_9.1 == x_10.1) && ((x_9.2.1 == x_10.2.1) && ((x_9.2.2.1 == x_10.2.2.1) && (x_9.2.2.2 == x_10.2.2.2))))) (
      .pure (.done (.inr false))) (
      .pure (.next (cs5, a6, b8, IntKind.i64.wrap (k9 + 1))))) (
    .pure (.done (.inl (cs5, a6, b8))))
noncomputable def law19_LboneMarks_T (ns0 : List Int) (more1 : Int) : Tr Bool :=
  .bnd law19_awake_F fun c_1 =>
  .br (!c_1) (
    .pure false) (
    .bnd (law19_Classes_F ns0) fun c_2 =>
    .bnd (lbone_Units_F c_2 ([])) fun c_3 =>
    .br ((c_3.length : Int) == 0) (
      .br ((c_2.length : Int) == 0) (
        .pure true) (
        .pure (decide ((c_3.length : Int) > 0)))) (
      .bnd (idx c_3 (IntKind.i64.wrap ((c_3.length : Int) - 1))) fun x_4 =>
      .bnd (law19_apart_F x_4.2.2.1) fun c_5 =>
      .br c_5 (
        .br ((c_2.length : Int) == 0) (
          .pure true) (
          .pure (decide ((c_3.length : Int) > 0)))) (
        .bnd (loopW (fun s => (law19_LboneMarks_L8 s.1 s.2.1 s.2.2.1 s.2.2.2).run) (more1, c_2, c_3, 0)) fun l_7 =>
        .bnd (lbone_Units_F l_7.1 ([])) fun c_8 =>
        .br ((l_7.2.length : Int) != (c_8.length : Int)) (
          .pure false) (
          .alt (loopW (fun s => (law19_LboneMarks_L15 s.1 s.2.1 s.2.2.1 s.2.2.2).run) (l_7.1, l_7.2, c_8, 0)) (fun l_11 =>
            .bnd (idx l_11.2.2 (IntKind.i64.wrap ((l_11.2.2.length : Int) - 1))) fun x_12 =>
            .bnd (idx ([x_12]) 0) fun x_13 =>
            .bnd (idx l_11.2.1 (IntKind.i64.wrap ((l_11.2.1.length : Int) - 1))) fun x_14 =>
            .br (x_13.1 == x_14.1) (
              .bnd (idx ([x_12]) 0) fun x_15 =>
              .br (x_15.2.1 == (l_11.1.length : Int)) (
                .bnd (idx ([x_12]) 0) fun x_16 =>
                .bnd (idx l_11.2.1 (IntKind.i64.wrap ((l_11.2.1.length : Int) - 1))) fun x_17 =>
                .pure (x_16.2.2.1 == x_17.2.2.1)) (
                .pure false)) (
              .pure false)) (fun l_18 =>
            .pure l_18)))))
noncomputable def law19_LboneMarks_F (ns0 : List Int) (more1 : Int) : Option Bool := (law19_LboneMarks_T ns0 more1).run
def law19_LboneMarks_L : List (Nat × LoopAnn) := [(8, { head := [.sv 1 false (.int .u8), .srow 5 1000005 53 true (.int .u8), .srow 6 1000006 55 true (.st (.pair (.int .i64) (.pair (.int .i64) (.pair (.int .u8) .bool)))), .sv 7 true (.int .i64)], xid := 0, out := [.srow 5 1000005 53 true (.int .u8), .srow 6 1000006 55 true (.st (.pair (.int .i64) (.pair (.int .i64) (.pair (.int .u8) .bool))))], hasRet := false, res := [] }), (15, { head := [.srow 5 1000005 53 true (.int .u8), .srow 6 1000006 55 true (.st (.pair (.int .i64) (.pair (.int .i64) (.pair (.int .u8) .bool)))), .srow 8 1000008 55 true (.st (.pair (.int .i64) (.pair (.int .i64) (.pair (.int .u8) .bool)))), .sv 9 true (.int .i64)], xid := 2, out := [.srow 5 1000005 53 true (.int .u8), .srow 6 1000006 55 true (.st (.pair (.int .i64) (.pair (.int .i64) (.pair (.int .u8) .bool)))), .srow 8 1000008 55 true (.st (.pair (.int .i64) (.pair (.int .i64) (.pair (.int .u8) .bool))))], hasRet := true, res := [.sv 4 true .bool] })]
noncomputable def law19_LboneMarks_C : List (Nat × Callee) := [(30, .plain law19_awake_fun), (31, .plain law19_Classes_fun), (32, .plain lbone_Units_fun), (35, .plain law19_apart_fun)]
noncomputable def law19_LboneMarks_fun : Fun := ⟨[.sl (.int .u8), .int .u8], [.v .bool], fun x => law19_LboneMarks_F x.1 x.2.1⟩
theorem law19_LboneMarks_ev (x : Tys.I [.sl (.int .u8), .int .u8]) : evFun G0 (fun f => olook f law19_LboneMarks_C) ⟨[], [], []⟩ (fun i => olook i law19_LboneMarks_L) Try.f13 [.sl (.int .u8), .int .u8] [.v .bool] x = law19_LboneMarks_T x.1 x.2.1 := by kernel_rfl
theorem law19_LboneMarks_ok : FunOk Try.prog 13 law19_LboneMarks_fun := evFun_ok mixed ctx0 (cons_calls (fb := .plain law19_awake_fun) law19_awake_ok (fun h => by cases h) (cons_calls (fb := .plain law19_Classes_fun) law19_Classes_ok (fun h => by cases h) (cons_calls (fb := .plain lbone_Units_fun) lbone_Units_ok (fun h => by cases h) (cons_calls (fb := .plain law19_apart_fun) law19_apart_ok (fun h => by cases h) (no_calls))))) Try.func13 (by kernel_rfl) _ (fun x => congrArg Tr.run (law19_LboneMarks_ev x)) (by kernel_rfl) (by kernel_rfl)
/-! ### boustrophedon/boustrophedonlaw19.LboneParts -/
noncomputable def law19_LboneParts_L9 (a5 : List Int) (x8 : List (Int × Int × Int × Bool)) (y9 : List (Int × Int × Int × Bool)) (t40 : List (Int × Int × Int × Bool)) (t41 : Int) (t42 : Int) : Tr (Lap (List Int × (List (Int × Int × Int × Bool)) × (List (Int × Int × Int × Bool)) × (List (Int × Int × Int × Bool)) × Int × Int) (Sum Unit Bool)) :=
  .br (decide (t42 < t41)) (
    .bnd (idx t40 t42) fun x_10 =>
    .br (decide (t42 < (x8.length : Int))) (
      .bnd (idx ([x_10]) 0) fun x_11 =>
      .bnd (idx x8 t42) fun x_12 =>
      .br (!((x_11.1 == x_12.1) && ((x_11.2.1 == x_12.2.1) && ((x_11.2.2.1 == x_12.2.2.1) && (x_11.2.2.2 == x_12.2.2.2))))) (
        .pure (.done (.inr false))) (
        .br (decide (t42 ≥ (x8.length : Int))) (
          .bnd (idx y9 (IntKind.i64.wrap (t42 - (x8.length : Int)))) fun x_13 =>
          .bnd (idx ([x_13]) 0) fun x_14 =>
          .bnd (idx ([x_13]) 0) fun x_15 =>
          .bnd (idx ([x_13]) 0) fun x_16 =>
          .bnd (idx ([(IntKind.i64.wrap (x_14.1 + (a5.length : Int)), x_16.2)]) 0) fun x_17 =>
          .bnd (idx ([x_10]) 0) fun x_18 =>
          .bnd (idx ([(x_17.1, IntKind.i64.wrap (x_15.2.1 + (a5.length : Int)), x_17.2.2)]) 0) fun x_19 =>
          .br (!((x_18.1 == x_19.1) && ((x_18.2.1 == x_19.2.1) && ((x_18.2.2.1 == x_19.2.2.1) && (x_18.2.2.2 == x_19.2.2.2))))) (
            .pure (.done (.inr false))) (
            .pure (.next (a5, x8, y9, t40, t41, IntKind.i64.wrap (t42 + 1))))) (
          .pure (.next (a5, x8, y9, t40, t41, IntKind.i64.wrap (t42 + 1)))))) (
      .br (decide (t42 ≥ (x8.length : Int))) (
        .bnd (idx y9 (IntKind.i64.wrap (t42 - (x8.length : Int)))) fun x_20 =>
        .bnd (idx ([x_20]) 0) fun x_21 =>
        .bnd (idx ([x_20]) 0) fun x_22 =>
        .bnd (idx ([x_20]) 0) fun x_23 =>
        .bnd (idx ([(IntKind.i64.wrap (x_21.1 + (a5.length : Int)), x_23.2)]) 0) fun x_24 =>
        .bnd (idx ([x_10]) 0) fun x_25 =>
        .bnd (idx ([(x_24.1, IntKind.i64.wrap (x_22.2.1 + (a5.length : Int)), x_24.2.2)]) 0) fun x_26 =>
        .br (!((x_25.1 == x_26.1) && ((x_25.2.1 == x_26.2.1) && ((x_25.2.2.1 == x_26.2.2.1) && (x_25.2.2.2 == x_26.2.2.2))))) (
          .pure (.done (.inr false))) (
          .pure (.next (a5, x8, y9, t40, t41, IntKind.i64.wrap (t42 + 1))))) (
        .pure (.next (a5, x8, y9, t40, t41, IntKind.i64.wrap (t42 + 1)))))) (
    .pure (.done (.inl ())))
noncomputable def law19_LboneParts_T (ns0 : List Int) (ms1 : List Int) : Tr Bool :=
  .bnd law19_awake_F fun c_1 =>
  .br (!c_1) (
    .pure false) (
    .bnd (law19_Classes_F ns0) fun c_2 =>
    .bnd (app 140737488355328 c_2 ([9])) fun r_3 =>
    .bnd (law19_Classes_F ms1) fun c_4 =>
    .bnd (app 140737488355328 [] r_3) fun r_5 =>
    .bnd (app 140737488355328 r_5 c_4) fun r_6 =>
    .bnd (lbone_Units_F r_3 ([])) fun c_7 =>
    .bnd (lbone_Units_F c_4 ([])) fun c_8 =>
    .bnd (lbone_Units_F r_6 ([])) fun c_9 =>
    .br ((c_9.length : Int) != (IntKind.i64.wrap ((c_7.length : Int) + (c_8.length : Int)))) (
      .pure false) (
      .alt (loopW (fun s => (law19_LboneParts_L9 s.1 s.2.1 s.2.2.1 s.2.2.2.1 s.2.2.2.2.1 s.2.2.2.2.2).run) (r_3, c_7, c_8, c_9, (c_9.length : Int), 0)) (fun l_27 =>
        .pure true) (fun l_28 =>
        .pure l_28)))
noncomputable def law19_LboneParts_F (ns0 : List Int) (ms1 : List Int) : Option Bool := (law19_LboneParts_T ns0 ms1).run
def law19_LboneParts_L : List (Nat × LoopAnn) := [(9, { head := [.srow 5 1000005 53 true (.int .u8), .srow 8 1000008 55 true (.st (.pair (.int .i64) (.pair (.int .i64) (.pair (.int .u8) .bool)))), .srow 9 1000009 55 true (.st (.pair (.int .i64) (.pair (.int .i64) (.pair (.int .u8) .bool)))), .srow 40 1000040 55 true (.st (.pair (.int .i64) (.pair (.int .i64) (.pair (.int .u8) .bool)))), .sv 41 true (.int .i64), .sv 42 true (.int .i64)], xid := 0, out := [], hasRet := true, res := [.sv 4 true .bool] })]
noncomputable def law19_LboneParts_C : List (Nat × Callee) := [(30, .plain law19_awake_fun), (31, .plain law19_Classes_fun), (32, .plain lbone_Units_fun)]
noncomputable def law19_LboneParts_fun : Fun := ⟨[.sl (.int .u8), .sl (.int .u8)], [.v .bool], fun x => law19_LboneParts_F x.1 x.2.1⟩
theorem law19_LboneParts_ev (x : Tys.I [.sl (.int .u8), .sl (.int .u8)]) : evFun G0 (fun f => olook f law19_LboneParts_C) ⟨[], [], []⟩ (fun i => olook i law19_LboneParts_L) Try.f14 [.sl (.int .u8), .sl (.int .u8)] [.v .bool] x = law19_LboneParts_T x.1 x.2.1 := by kernel_rfl
theorem law19_LboneParts_ok : FunOk Try.prog 14 law19_LboneParts_fun := evFun_ok mixed ctx0 (cons_calls (fb := .plain law19_awake_fun) law19_awake_ok (fun h => by cases h) (cons_calls (fb := .plain law19_Classes_fun) law19_Classes_ok (fun h => by cases h) (cons_calls (fb := .plain lbone_Units_fun) lbone_Units_ok (fun h => by cases h) (no_calls)))) Try.func14 (by kernel_rfl) _ (fun x => congrArg Tr.run (law19_LboneParts_ev x)) (by kernel_rfl) (by kernel_rfl)
end Go.Proofs.Yteldfdpjgpjafaa
