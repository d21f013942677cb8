/-
  The plain readings of the functions of this seat, by program: the second half.
-/
import Derived.Test.YtnldcpanpojeiaaGreatDoorShA
namespace Go.Proofs.YtnldcpanpojeiaaGreatDoor
set_option maxRecDepth 100000
set_option linter.unusedVariables false

noncomputable def levels_Of_L7 (rs0 : List Int) (d1 : Int) (t4 : List Int × List Int × (List (Int × Int × Int)) × List Int) (t9 : List Int × List Int × (List (Int × Int × Int)) × List Int) (t32 : Int) (t33 : Int) : Tr (Lap (List Int × Int × (List Int × List Int × (List (Int × Int × Int)) × List Int) × (List Int × List Int × (List (Int × Int × Int)) × List Int) × Int × Int) (Sum ((List Int × List Int × (List (Int × Int × Int)) × List Int) × List Int × List Int × (List (Int × Int × Int)) × List Int) ((List Int × List Int × (List (Int × Int × Int)) × List Int) × Option (Int × ByteArray × Int)))) :=
  .br (decide (t33 < t32)) (
    .bnd (idx t9.2.2.1 t33) fun x_4 =>
    .bnd (idx ([x_4]) 0) fun x_5 =>
    .bnd (idx ([x_4]) 0) fun x_6 =>
    .bnd (cut t9.1 x_5.1 x_6.2.1) fun r_7 =>
    .bnd (base_Level_F r_7 d1) fun c_8 =>
    .br c_8.2.isSome (
      .pure (.done (.inr (([], [], [], []), c_8.2)))) (
      .bnd (app 17592186044416 t9.2.2.2 ([c_8.1])) fun r_9 =>
      .bnd (idx ([x_4]) 0) fun x_10 =>
      .bnd (idx ([x_4]) 0) fun x_11 =>
      .bnd (cut rs0 x_10.1 x_11.2.1) fun r_12 =>
      .bnd (idx ([x_4]) 0) fun x_13 =>
      .bnd (idx ([x_4]) 0) fun x_14 =>
      .bnd (cut t9.1 x_13.1 x_14.2.1) fun r_15 =>
      .bnd (levels_Paragraph_F r_12 r_15 c_8.1) fun c_16 =>
      .bnd (app 17592186044416 t9.2.1 c_16) fun r_17 =>
      .pure (.next (rs0, d1, t4, (t9.1, r_17, t9.2.2.1, r_9), t32, IntKind.i64.wrap (t33 + 1))))) (
    .pure (.done (.inl (t4, (t9.1, t9.2.1, t9.2.2.1, t9.2.2.2)))))
noncomputable def levels_Of_T (rs0 : List Int) (d1 : Int) : Tr ((List Int × List Int × (List (Int × Int × Int)) × List Int) × Option (Int × ByteArray × Int)) :=
  .bnd (base_Level_F ([]) d1) fun c_1 =>
  .br c_1.2.isSome (
    .pure (([], [], [], []), c_1.2)) (
    .bnd (bidic_Of_F rs0) fun c_2 =>
    .bnd (para_Split_F rs0 c_2) fun c_3 =>
    .alt (loopW (fun s => (levels_Of_L7 s.1 s.2.1 s.2.2.1 s.2.2.2.1 s.2.2.2.2.1 s.2.2.2.2.2).run) (rs0, d1, ([], [], [], []), (c_2, [], c_3, []), (c_3.length : Int), 0)) (fun l_18 =>
      .pure ((l_18.2.1, l_18.2.2.1, l_18.2.2.2.1, l_18.2.2.2.2), none)) (fun l_19 =>
      .pure (l_19.1, l_19.2)))
noncomputable def levels_Of_F (rs0 : List Int) (d1 : Int) : Option ((List Int × List Int × (List (Int × Int × Int)) × List Int) × Option (Int × ByteArray × Int)) := (levels_Of_T rs0 d1).run
def levels_Of_L : List (Nat × LoopAnn) := [(7, { head := [.sv 0 false Tg, .sv 1 false Th, .sbox 4 1000004 68 true (.st (.pair Tf (.pair Te (.pair (.sl Tc) Te)))), .sboxh 9 1000009 68 (.st (.pair Tf (.pair Te (.pair (.sl Tc) Te)))) [(0, 156), (1, 3), (2, 108), (3, 3)] [(8, 0), (31, 2)], .sv 32 true Th, .sv 33 true Th], xid := 0, out := [.sbox 4 1000004 68 true (.st (.pair Tf (.pair Te (.pair (.sl Tc) Te)))), .sboxh 9 1000009 68 (.st (.pair Tf (.pair Te (.pair (.sl Tc) Te)))) [(0, 156), (1, 3), (2, 108), (3, 3)] []], hasRet := true, res := [.sbox 4 1000004 68 true (.st (.pair Tf (.pair Te (.pair (.sl Tc) Te)))), .sv 5 true (.err 52 26)] })]
noncomputable def levels_Of_C : List (Nat × Callee) := [(37, .plain base_Level_fun), (38, .plain bidic_Of_fun), (39, .plain para_Split_fun), (40, .plain levels_Paragraph_fun)]
noncomputable def levels_Of_fun : Fun := ⟨[.sl Tj, Th], [.v (.st (.pair Tf (.pair Te (.pair (.sl Tc) Te)))), .v (.err 52 26)], fun x => levels_Of_F x.1 x.2.1⟩
theorem levels_Of_ev (x : Tys.I [.sl Tj, Th]) : evFun G0 (of_ levels_Of_C) ⟨[], [], [], [], [], [(29, [(0, 156), (1, 3), (2, 108), (3, 3)]), (77, [(0, 156), (1, 3), (2, 108), (3, 3)])]⟩ (ol_ levels_Of_L) Tryz.f21 [.sl Tj, Th] [.v (.st (.pair Tf (.pair Te (.pair (.sl Tc) Te)))), .v (.err 52 26)] x = levels_Of_T x.1 x.2.1 := by kernel_rfl
theorem levels_Of_ok : FunOk Tryz.prog 21 levels_Of_fun := evFun_ok mixed ctx0 (pc base_Level_ok (pc bidic_Of_ok (pc para_Split_ok (pc levels_Paragraph_ok (no_calls))))) Tryz.func21 (by kernel_rfl) _ (fun x => congrArg Tr.run (levels_Of_ev x)) (by kernel_rfl) (by kernel_rfl)
noncomputable def cellw_rows_T : Tr (List (Int × Int × Int)) :=
  .pure ([((0 : Int), (31 : Int), (0 : Int)), ((127 : Int), (159 : Int), (0 : Int)), ((173 : Int), (173 : Int), (0 : Int)), ((768 : Int), (879 : Int), (0 : Int)), ((1155 : Int), (1161 : Int), (0 : Int)), ((1425 : Int), (1469 : Int), (0 : Int)), ((1471 : Int), (1471 : Int), (0 : Int)), ((1473 : Int), (1474 : Int), (0 : Int)), ((1476 : Int), (1477 : Int), (0 : Int)), ((1479 : Int), (1479 : Int), (0 : Int)), ((1536 : Int), (1541 : Int), (0 : Int)), ((1552 : Int), (1562 : Int), (0 : Int)), ((1564 : Int), (1564 : Int), (0 : Int)), ((1611 : Int), (1631 : Int), (0 : Int)), ((1648 : Int), (1648 : Int), (0 : Int)), ((1750 : Int), (1757 : Int), (0 : Int)), ((1759 : Int), (1764 : Int), (0 : Int)), ((1767 : Int), (1768 : Int), (0 : Int)), ((1770 : Int), (1773 : Int), (0 : Int)), ((1809 : Int), (1809 : Int), (0 : Int)), ((1840 : Int), (1866 : Int), (0 : Int)), ((1958 : Int), (1968 : Int), (0 : Int)), ((2027 : Int), (2035 : Int), (0 : Int)), ((2250 : Int), (2306 : Int), (0 : Int)), ((2362 : Int), (2362 : Int), (0 : Int)), ((2364 : Int), (2364 : Int), (0 : Int)), ((2369 : Int), (2376 : Int), (0 : Int)), ((2381 : Int), (2381 : Int), (0 : Int)), ((3633 : Int), (3633 : Int), (0 : Int)), ((3636 : Int), (3642 : Int), (0 : Int)), ((3655 : Int), (3662 : Int), (0 : Int)), ((4352 : Int), (4447 : Int), (2 : Int)), ((4448 : Int), (4607 : Int), (0 : Int)), ((8203 : Int), (8207 : Int), (0 : Int)), ((8232 : Int), (8238 : Int), (0 : Int)), ((8288 : Int), (8303 : Int), (0 : Int)), ((8400 : Int), (8432 : Int), (0 : Int)), ((8986 : Int), (8987 : Int), (2 : Int)), ((9001 : Int), (9002 : Int), (2 : Int)), ((9200 : Int), (9200 : Int), (2 : Int)), ((9203 : Int), (9203 : Int), (2 : Int)), ((9748 : Int), (9749 : Int), (2 : Int)), ((11904 : Int), (12287 : Int), (2 : Int)), ((12288 : Int), (12329 : Int), (2 : Int)), ((12330 : Int), (12333 : Int), (0 : Int)), ((12334 : Int), (12350 : Int), (2 : Int)), ((12353 : Int), (12440 : Int), (2 : Int)), ((12441 : Int), (12442 : Int), (0 : Int)), ((12443 : Int), (13311 : Int), (2 : Int)), ((13312 : Int), (19903 : Int), (2 : Int)), ((19968 : Int), (42191 : Int), (2 : Int)), ((43360 : Int), (43391 : Int), (2 : Int)), ((44032 : Int), (55203 : Int), (2 : Int)), ((63744 : Int), (64255 : Int), (2 : Int)), ((64286 : Int), (64286 : Int), (0 : Int)), ((65024 : Int), (65039 : Int), (0 : Int)), ((65040 : Int), (65049 : Int), (2 : Int)), ((65056 : Int), (65071 : Int), (0 : Int)), ((65072 : Int), (65135 : Int), (2 : Int)), ((65279 : Int), (65279 : Int), (0 : Int)), ((65281 : Int), (65376 : Int), (2 : Int)), ((65504 : Int), (65510 : Int), (2 : Int)), ((127462 : Int), (127487 : Int), (1 : Int)), ((127744 : Int), (128591 : Int), (2 : Int)), ((128640 : Int), (128767 : Int), (2 : Int)), ((129280 : Int), (129791 : Int), (2 : Int)), ((131072 : Int), (262141 : Int), (2 : Int)), ((917505 : Int), (917631 : Int), (0 : Int)), ((917760 : Int), (917999 : Int), (0 : Int))])
noncomputable def cellw_rows_F : Option (List (Int × Int × Int)) := (cellw_rows_T).run
def cellw_rows_L : List (Nat × LoopAnn) := []
noncomputable def cellw_rows_C : List (Nat × Callee) := []
noncomputable def cellw_rows_fun : Fun := ⟨[], [.row 177 Td], fun _ => cellw_rows_F⟩
theorem cellw_rows_ev (x : Tys.I []) : evFun G0 (of_ cellw_rows_C) A0 (ol_ cellw_rows_L) Tryz.f74 [] [.row 177 Td] x = cellw_rows_T := by kernel_rfl
theorem cellw_rows_ok : FunOk Tryz.prog 74 cellw_rows_fun := evFun_ok mixed ctx0 (no_calls) Tryz.func74 (by kernel_rfl) _ (fun x => congrArg Tr.run (cellw_rows_ev x)) (by kernel_rfl) (by kernel_rfl)
noncomputable def cellw_Table_L4 (rs2 : List (Int × Int × Int)) (t9 : List (Int × Int × Int)) (t10 : Int) (t11 : Int) : Tr (Lap ((List (Int × Int × Int)) × (List (Int × Int × Int)) × Int × Int) (List (Int × Int × Int))) :=
  .br (decide (t11 < t10)) (
    .bnd (idx t9 t11) fun x_3 =>
    .bnd (idx ([x_3]) 0) fun x_4 =>
    .bnd (idx ([x_3]) 0) fun x_5 =>
    .bnd (idx ([x_3]) 0) fun x_6 =>
    .bnd (idx rs2 t11) fun x_7 =>
    .pure (.next (rs2.set (Int.toNat t11) (x_4.1, x_5.2.1, x_6.2.2), t9, t10, IntKind.i64.wrap (t11 + 1)))) (
    .pure (.done rs2))
noncomputable def cellw_Table_T : Tr (List (Int × Int × Int)) :=
  .bnd cellw_rows_F fun c_1 =>
  .bnd (mk 11728124029610 (0, (0, 0)) (c_1.length : Int)) fun r_2 =>
  .bnd (loopW (fun s => (cellw_Table_L4 s.1 s.2.1 s.2.2.1 s.2.2.2).run) (r_2, c_1, (c_1.length : Int), 0)) fun l_8 =>
  .pure l_8
noncomputable def cellw_Table_F : Option (List (Int × Int × Int)) := (cellw_Table_T).run
def cellw_Table_L : List (Nat × LoopAnn) := [(4, { head := [.srow 2 1000002 179 true Td, .srow 9 1000009 177 true Td, .sv 10 true Th, .sv 11 true Th], xid := 0, out := [.srow 2 1000002 179 true Td], hasRet := false, res := [] })]
noncomputable def cellw_Table_C : List (Nat × Callee) := [(74, .plain cellw_rows_fun)]
noncomputable def cellw_Table_fun : Fun := ⟨[], [.row 179 Td], fun _ => cellw_Table_F⟩
theorem cellw_Table_ev (x : Tys.I []) : evFun G0 (of_ cellw_Table_C) A0 (ol_ cellw_Table_L) Tryz.f43 [] [.row 179 Td] x = cellw_Table_T := by kernel_rfl
theorem cellw_Table_ok : FunOk Tryz.prog 43 cellw_Table_fun := evFun_ok mixed ctx0 (pc cellw_rows_ok (no_calls)) Tryz.func43 (by kernel_rfl) _ (fun x => congrArg Tr.run (cellw_Table_ev x)) (by kernel_rfl) (by kernel_rfl)
noncomputable def cellw_Of_L4 (table3 : List (Int × Int × Int)) (ws4 : List Int) (t11 : List Int) (t12 : Int) (t13 : Int) : Tr (Lap ((List (Int × Int × Int)) × List Int × List Int × Int × Int) (List Int)) :=
  .br (decide (t13 < t12)) (
    .bnd (idx t11 t13) fun x_3 =>
    .br (decide (0 ≤ x_3)) (
      .br (decide (x_3 ≤ 1114111)) (
        .bnd (ranges_Find_F table3 x_3 1) fun c_4 =>
        .bnd (idx ws4 t13) fun x_5 =>
        .pure (.next (table3, ws4.set (Int.toNat t13) (IntKind.i64.wrap c_4), t11, t12, IntKind.i64.wrap (t13 + 1)))) (
        .pure (.next (table3, ws4, t11, t12, IntKind.i64.wrap (t13 + 1))))) (
      .pure (.next (table3, ws4, t11, t12, IntKind.i64.wrap (t13 + 1))))) (
    .pure (.done ws4))
noncomputable def cellw_Of_T (rs0 : List Int) : Tr (List Int) :=
  .bnd cellw_Table_F fun c_1 =>
  .bnd (mk 17592186044416 0 (rs0.length : Int)) fun r_2 =>
  .bnd (loopW (fun s => (cellw_Of_L4 s.1 s.2.1 s.2.2.1 s.2.2.2.1 s.2.2.2.2).run) (c_1, r_2, rs0, (rs0.length : Int), 0)) fun l_6 =>
  .pure l_6
noncomputable def cellw_Of_F (rs0 : List Int) : Option (List Int) := (cellw_Of_T rs0).run
def cellw_Of_L : List (Nat × LoopAnn) := [(4, { head := [.srow 3 1000003 179 true Td, .srow 4 1000004 3 true Th, .sv 11 false Tg, .sv 12 true Th, .sv 13 true Th], xid := 0, out := [.srow 4 1000004 3 true Th], hasRet := false, res := [] })]
noncomputable def cellw_Of_C : List (Nat × Callee) := [(43, .plain cellw_Table_fun), (44, .plain ranges_Find_fun)]
noncomputable def cellw_Of_fun : Fun := ⟨[.sl Tj], [.row 3 Th], fun x => cellw_Of_F x.1⟩
theorem cellw_Of_ev (x : Tys.I [.sl Tj]) : evFun G0 (of_ cellw_Of_C) A0 (ol_ cellw_Of_L) Tryz.f23 [.sl Tj] [.row 3 Th] x = cellw_Of_T x.1 := by kernel_rfl
theorem cellw_Of_ok : FunOk Tryz.prog 23 cellw_Of_fun := evFun_ok mixed ctx0 (pc cellw_Table_ok (pc ranges_Find_ok (no_calls))) Tryz.func23 (by kernel_rfl) _ (fun x => congrArg Tr.run (cellw_Of_ev x)) (by kernel_rfl) (by kernel_rfl)
noncomputable def linec_rows_T : Tr (List (Int × Int × Int)) :=
  .pure ([((0 : Int), (8 : Int), (3 : Int)), ((9 : Int), (9 : Int), (14 : Int)), ((10 : Int), (10 : Int), (7 : Int)), ((11 : Int), (12 : Int), (5 : Int)), ((13 : Int), (13 : Int), (6 : Int)), ((14 : Int), (31 : Int), (3 : Int)), ((32 : Int), (32 : Int), (9 : Int)), ((33 : Int), (33 : Int), (23 : Int)), ((34 : Int), (34 : Int), (22 : Int)), ((35 : Int), (35 : Int), (1 : Int)), ((36 : Int), (36 : Int), (29 : Int)), ((37 : Int), (37 : Int), (28 : Int)), ((38 : Int), (38 : Int), (1 : Int)), ((39 : Int), (39 : Int), (22 : Int)), ((40 : Int), (40 : Int), (21 : Int)), ((41 : Int), (41 : Int), (20 : Int)), ((42 : Int), (42 : Int), (1 : Int)), ((43 : Int), (43 : Int), (29 : Int)), ((44 : Int), (44 : Int), (25 : Int)), ((45 : Int), (45 : Int), (17 : Int)), ((46 : Int), (46 : Int), (25 : Int)), ((47 : Int), (47 : Int), (26 : Int)), ((48 : Int), (57 : Int), (27 : Int)), ((58 : Int), (59 : Int), (25 : Int)), ((60 : Int), (62 : Int), (1 : Int)), ((63 : Int), (63 : Int), (23 : Int)), ((64 : Int), (90 : Int), (1 : Int)), ((91 : Int), (91 : Int), (21 : Int)), ((92 : Int), (92 : Int), (29 : Int)), ((93 : Int), (93 : Int), (20 : Int)), ((94 : Int), (122 : Int), (1 : Int)), ((123 : Int), (123 : Int), (21 : Int)), ((124 : Int), (124 : Int), (14 : Int)), ((125 : Int), (125 : Int), (19 : Int)), ((126 : Int), (126 : Int), (1 : Int)), ((127 : Int), (132 : Int), (3 : Int)), ((133 : Int), (133 : Int), (8 : Int)), ((134 : Int), (159 : Int), (3 : Int)), ((160 : Int), (160 : Int), (12 : Int)), ((161 : Int), (161 : Int), (21 : Int)), ((162 : Int), (162 : Int), (28 : Int)), ((163 : Int), (165 : Int), (29 : Int)), ((166 : Int), (166 : Int), (1 : Int)), ((167 : Int), (168 : Int), (39 : Int)), ((169 : Int), (169 : Int), (1 : Int)), ((170 : Int), (170 : Int), (39 : Int)), ((171 : Int), (171 : Int), (22 : Int)), ((172 : Int), (172 : Int), (1 : Int)), ((173 : Int), (173 : Int), (14 : Int)), ((174 : Int), (175 : Int), (1 : Int)), ((176 : Int), (176 : Int), (28 : Int)), ((177 : Int), (177 : Int), (29 : Int)), ((178 : Int), (179 : Int), (39 : Int)), ((180 : Int), (180 : Int), (15 : Int)), ((181 : Int), (181 : Int), (1 : Int)), ((182 : Int), (186 : Int), (39 : Int)), ((187 : Int), (187 : Int), (22 : Int)), ((188 : Int), (190 : Int), (39 : Int)), ((191 : Int), (191 : Int), (21 : Int)), ((192 : Int), (214 : Int), (1 : Int)), ((215 : Int), (215 : Int), (39 : Int)), ((216 : Int), (246 : Int), (1 : Int)), ((247 : Int), (247 : Int), (39 : Int)), ((248 : Int), (710 : Int), (1 : Int)), ((712 : Int), (712 : Int), (15 : Int)), ((716 : Int), (716 : Int), (15 : Int)), ((735 : Int), (735 : Int), (15 : Int)), ((768 : Int), (846 : Int), (3 : Int)), ((847 : Int), (847 : Int), (12 : Int)), ((848 : Int), (859 : Int), (3 : Int)), ((860 : Int), (866 : Int), (12 : Int)), ((867 : Int), (879 : Int), (3 : Int)), ((880 : Int), (1154 : Int), (1 : Int)), ((1155 : Int), (1161 : Int), (3 : Int)), ((1162 : Int), (1416 : Int), (1 : Int)), ((1417 : Int), (1417 : Int), (25 : Int)), ((1418 : Int), (1418 : Int), (14 : Int)), ((1425 : Int), (1469 : Int), (3 : Int)), ((1470 : Int), (1470 : Int), (14 : Int)), ((1471 : Int), (1471 : Int), (3 : Int)), ((1473 : Int), (1474 : Int), (3 : Int)), ((1476 : Int), (1477 : Int), (3 : Int)), ((1478 : Int), (1478 : Int), (23 : Int)), ((1479 : Int), (1479 : Int), (3 : Int)), ((1488 : Int), (1522 : Int), (2 : Int)), ((1536 : Int), (1544 : Int), (1 : Int)), ((1545 : Int), (1547 : Int), (28 : Int)), ((1548 : Int), (1549 : Int), (25 : Int)), ((1550 : Int), (1551 : Int), (1 : Int)), ((1552 : Int), (1562 : Int), (3 : Int)), ((1563 : Int), (1563 : Int), (23 : Int)), ((1564 : Int), (1564 : Int), (3 : Int)), ((1565 : Int), (1567 : Int), (23 : Int)), ((1568 : Int), (1610 : Int), (1 : Int)), ((1611 : Int), (1631 : Int), (3 : Int)), ((1632 : Int), (1641 : Int), (27 : Int)), ((1642 : Int), (1642 : Int), (28 : Int)), ((1643 : Int), (1644 : Int), (27 : Int)), ((1645 : Int), (1647 : Int), (1 : Int)), ((1648 : Int), (1648 : Int), (3 : Int)), ((1649 : Int), (1747 : Int), (1 : Int)), ((1748 : Int), (1748 : Int), (23 : Int)), ((1749 : Int), (1749 : Int), (1 : Int)), ((1750 : Int), (1756 : Int), (3 : Int)), ((1757 : Int), (1757 : Int), (27 : Int)), ((1758 : Int), (1758 : Int), (1 : Int)), ((1759 : Int), (1764 : Int), (3 : Int)), ((1765 : Int), (1766 : Int), (1 : Int)), ((1767 : Int), (1768 : Int), (3 : Int)), ((1769 : Int), (1769 : Int), (1 : Int)), ((1770 : Int), (1773 : Int), (3 : Int)), ((1774 : Int), (1775 : Int), (1 : Int)), ((1776 : Int), (1785 : Int), (27 : Int)), ((1786 : Int), (1808 : Int), (1 : Int)), ((1809 : Int), (1809 : Int), (3 : Int)), ((1810 : Int), (1839 : Int), (1 : Int)), ((1840 : Int), (1866 : Int), (3 : Int)), ((1867 : Int), (1957 : Int), (1 : Int)), ((1958 : Int), (1968 : Int), (3 : Int)), ((2304 : Int), (2307 : Int), (3 : Int)), ((2308 : Int), (2361 : Int), (1 : Int)), ((2362 : Int), (2364 : Int), (3 : Int)), ((2365 : Int), (2365 : Int), (1 : Int)), ((2366 : Int), (2383 : Int), (3 : Int)), ((2392 : Int), (2401 : Int), (1 : Int)), ((2404 : Int), (2405 : Int), (14 : Int)), ((2406 : Int), (2415 : Int), (27 : Int)), ((3585 : Int), (3632 : Int), (40 : Int)), ((3633 : Int), (3633 : Int), (40 : Int)), ((3634 : Int), (3635 : Int), (40 : Int)), ((3636 : Int), (3642 : Int), (40 : Int)), ((3647 : Int), (3647 : Int), (29 : Int)), ((3648 : Int), (3662 : Int), (40 : Int)), ((3664 : Int), (3673 : Int), (27 : Int)), ((3674 : Int), (3675 : Int), (14 : Int)), ((4352 : Int), (4447 : Int), (34 : Int)), ((4448 : Int), (4519 : Int), (35 : Int)), ((4520 : Int), (4607 : Int), (36 : Int)), ((5760 : Int), (5760 : Int), (14 : Int)), ((8192 : Int), (8198 : Int), (14 : Int)), ((8199 : Int), (8199 : Int), (12 : Int)), ((8200 : Int), (8202 : Int), (14 : Int)), ((8203 : Int), (8203 : Int), (10 : Int)), ((8204 : Int), (8204 : Int), (3 : Int)), ((8205 : Int), (8205 : Int), (4 : Int)), ((8206 : Int), (8207 : Int), (3 : Int)), ((8208 : Int), (8208 : Int), (14 : Int)), ((8209 : Int), (8209 : Int), (12 : Int)), ((8210 : Int), (8211 : Int), (14 : Int)), ((8212 : Int), (8212 : Int), (16 : Int)), ((8213 : Int), (8214 : Int), (39 : Int)), ((8216 : Int), (8217 : Int), (22 : Int)), ((8218 : Int), (8218 : Int), (21 : Int)), ((8219 : Int), (8221 : Int), (22 : Int)), ((8222 : Int), (8222 : Int), (21 : Int)), ((8223 : Int), (8223 : Int), (22 : Int)), ((8224 : Int), (8225 : Int), (39 : Int)), ((8228 : Int), (8230 : Int), (24 : Int)), ((8231 : Int), (8231 : Int), (14 : Int)), ((8232 : Int), (8233 : Int), (5 : Int)), ((8234 : Int), (8238 : Int), (3 : Int)), ((8239 : Int), (8239 : Int), (12 : Int)), ((8240 : Int), (8247 : Int), (28 : Int)), ((8248 : Int), (8248 : Int), (1 : Int)), ((8249 : Int), (8250 : Int), (22 : Int)), ((8251 : Int), (8251 : Int), (39 : Int)), ((8252 : Int), (8253 : Int), (18 : Int)), ((8260 : Int), (8260 : Int), (25 : Int)), ((8261 : Int), (8261 : Int), (21 : Int)), ((8262 : Int), (8262 : Int), (19 : Int)), ((8263 : Int), (8265 : Int), (18 : Int)), ((8278 : Int), (8278 : Int), (14 : Int)), ((8280 : Int), (8283 : Int), (14 : Int)), ((8285 : Int), (8287 : Int), (14 : Int)), ((8288 : Int), (8288 : Int), (11 : Int)), ((8294 : Int), (8303 : Int), (3 : Int)), ((8317 : Int), (8317 : Int), (21 : Int)), ((8318 : Int), (8318 : Int), (19 : Int)), ((8333 : Int), (8333 : Int), (21 : Int)), ((8334 : Int), (8334 : Int), (19 : Int)), ((8352 : Int), (8358 : Int), (29 : Int)), ((8359 : Int), (8359 : Int), (28 : Int)), ((8360 : Int), (8373 : Int), (29 : Int)), ((8374 : Int), (8374 : Int), (28 : Int)), ((8375 : Int), (8399 : Int), (29 : Int)), ((8400 : Int), (8432 : Int), (3 : Int)), ((8451 : Int), (8451 : Int), (28 : Int)), ((8457 : Int), (8457 : Int), (28 : Int)), ((8470 : Int), (8470 : Int), (29 : Int)), ((8592 : Int), (8601 : Int), (39 : Int)), ((8722 : Int), (8723 : Int), (29 : Int)), ((8968 : Int), (8968 : Int), (21 : Int)), ((8969 : Int), (8969 : Int), (19 : Int)), ((8970 : Int), (8970 : Int), (21 : Int)), ((8971 : Int), (8971 : Int), (19 : Int)), ((8986 : Int), (8987 : Int), (30 : Int)), ((9001 : Int), (9001 : Int), (21 : Int)), ((9002 : Int), (9002 : Int), (19 : Int)), ((9200 : Int), (9203 : Int), (30 : Int)), ((9312 : Int), (9470 : Int), (39 : Int)), ((9472 : Int), (9547 : Int), (39 : Int)), ((9728 : Int), (9731 : Int), (30 : Int)), ((9748 : Int), (9749 : Int), (30 : Int)), ((9757 : Int), (9757 : Int), (31 : Int)), ((9785 : Int), (9787 : Int), (30 : Int)), ((9977 : Int), (9977 : Int), (31 : Int)), ((9994 : Int), (9997 : Int), (31 : Int)), ((10082 : Int), (10083 : Int), (23 : Int)), ((10084 : Int), (10084 : Int), (30 : Int)), ((10214 : Int), (10214 : Int), (21 : Int)), ((10215 : Int), (10215 : Int), (19 : Int)), ((10216 : Int), (10216 : Int), (21 : Int)), ((10217 : Int), (10217 : Int), (19 : Int)), ((10218 : Int), (10218 : Int), (21 : Int)), ((10219 : Int), (10219 : Int), (19 : Int)), ((10627 : Int), (10627 : Int), (21 : Int)), ((10628 : Int), (10628 : Int), (19 : Int)), ((11904 : Int), (12287 : Int), (30 : Int)), ((12288 : Int), (12288 : Int), (14 : Int)), ((12289 : Int), (12290 : Int), (19 : Int)), ((12291 : Int), (12292 : Int), (30 : Int)), ((12293 : Int), (12293 : Int), (18 : Int)), ((12294 : Int), (12295 : Int), (30 : Int)), ((12296 : Int), (12296 : Int), (21 : Int)), ((12297 : Int), (12297 : Int), (19 : Int)), ((12298 : Int), (12298 : Int), (21 : Int)), ((12299 : Int), (12299 : Int), (19 : Int)), ((12300 : Int), (12300 : Int), (21 : Int)), ((12301 : Int), (12301 : Int), (19 : Int)), ((12302 : Int), (12302 : Int), (21 : Int)), ((12303 : Int), (12303 : Int), (19 : Int)), ((12304 : Int), (12304 : Int), (21 : Int)), ((12305 : Int), (12305 : Int), (19 : Int)), ((12306 : Int), (12307 : Int), (30 : Int)), ((12308 : Int), (12308 : Int), (21 : Int)), ((12309 : Int), (12309 : Int), (19 : Int)), ((12310 : Int), (12310 : Int), (21 : Int)), ((12311 : Int), (12311 : Int), (19 : Int)), ((12316 : Int), (12316 : Int), (18 : Int)), ((12317 : Int), (12317 : Int), (21 : Int)), ((12318 : Int), (12319 : Int), (19 : Int)), ((12320 : Int), (12329 : Int), (30 : Int)), ((12330 : Int), (12335 : Int), (3 : Int)), ((12336 : Int), (12346 : Int), (30 : Int)), ((12347 : Int), (12348 : Int), (18 : Int)), ((12353 : Int), (12353 : Int), (42 : Int)), ((12354 : Int), (12354 : Int), (30 : Int)), ((12355 : Int), (12355 : Int), (42 : Int)), ((12356 : Int), (12356 : Int), (30 : Int)), ((12357 : Int), (12357 : Int), (42 : Int)), ((12358 : Int), (12358 : Int), (30 : Int)), ((12359 : Int), (12359 : Int), (42 : Int)), ((12360 : Int), (12360 : Int), (30 : Int)), ((12361 : Int), (12361 : Int), (42 : Int)), ((12362 : Int), (12386 : Int), (30 : Int)), ((12387 : Int), (12387 : Int), (42 : Int)), ((12388 : Int), (12418 : Int), (30 : Int)), ((12419 : Int), (12419 : Int), (42 : Int)), ((12420 : Int), (12420 : Int), (30 : Int)), ((12421 : Int), (12421 : Int), (42 : Int)), ((12422 : Int), (12422 : Int), (30 : Int)), ((12423 : Int), (12423 : Int), (42 : Int)), ((12424 : Int), (12440 : Int), (30 : Int)), ((12441 : Int), (12442 : Int), (3 : Int)), ((12443 : Int), (12446 : Int), (18 : Int)), ((12447 : Int), (12447 : Int), (30 : Int)), ((12448 : Int), (12448 : Int), (18 : Int)), ((12449 : Int), (12449 : Int), (42 : Int)), ((12450 : Int), (12482 : Int), (30 : Int)), ((12483 : Int), (12483 : Int), (42 : Int)), ((12484 : Int), (12538 : Int), (30 : Int)), ((12539 : Int), (12539 : Int), (18 : Int)), ((12540 : Int), (12540 : Int), (42 : Int)), ((12541 : Int), (12542 : Int), (18 : Int)), ((12543 : Int), (12543 : Int), (30 : Int)), ((12549 : Int), (19903 : Int), (30 : Int)), ((19968 : Int), (40980 : Int), (30 : Int)), ((40981 : Int), (40981 : Int), (18 : Int)), ((40982 : Int), (42191 : Int), (30 : Int)), ((55296 : Int), (57343 : Int), (41 : Int)), ((63744 : Int), (64255 : Int), (30 : Int)), ((64285 : Int), (64285 : Int), (2 : Int)), ((64286 : Int), (64286 : Int), (3 : Int)), ((64287 : Int), (64296 : Int), (2 : Int)), ((64297 : Int), (64297 : Int), (1 : Int)), ((64298 : Int), (64335 : Int), (2 : Int)), ((64336 : Int), (65019 : Int), (1 : Int)), ((65020 : Int), (65020 : Int), (28 : Int)), ((65024 : Int), (65039 : Int), (3 : Int)), ((65040 : Int), (65040 : Int), (25 : Int)), ((65043 : Int), (65044 : Int), (25 : Int)), ((65056 : Int), (65071 : Int), (3 : Int)), ((65136 : Int), (65276 : Int), (1 : Int)), ((65279 : Int), (65279 : Int), (11 : Int)), ((65281 : Int), (65281 : Int), (23 : Int)), ((65282 : Int), (65283 : Int), (30 : Int)), ((65284 : Int), (65284 : Int), (29 : Int)), ((65285 : Int), (65285 : Int), (28 : Int)), ((65288 : Int), (65288 : Int), (21 : Int)), ((65289 : Int), (65289 : Int), (19 : Int)), ((65292 : Int), (65292 : Int), (19 : Int)), ((65294 : Int), (65294 : Int), (19 : Int)), ((65296 : Int), (65305 : Int), (30 : Int)), ((65306 : Int), (65307 : Int), (18 : Int)), ((65311 : Int), (65311 : Int), (23 : Int)), ((65313 : Int), (65338 : Int), (30 : Int)), ((65339 : Int), (65339 : Int), (21 : Int)), ((65341 : Int), (65341 : Int), (19 : Int)), ((65345 : Int), (65370 : Int), (30 : Int)), ((65371 : Int), (65371 : Int), (21 : Int)), ((65373 : Int), (65373 : Int), (19 : Int)), ((65377 : Int), (65377 : Int), (19 : Int)), ((65378 : Int), (65378 : Int), (21 : Int)), ((65379 : Int), (65380 : Int), (19 : Int)), ((65532 : Int), (65532 : Int), (13 : Int)), ((65533 : Int), (65533 : Int), (39 : Int)), ((127462 : Int), (127487 : Int), (33 : Int)), ((127744 : Int), (127876 : Int), (30 : Int)), ((127877 : Int), (127877 : Int), (31 : Int)), ((127878 : Int), (127994 : Int), (30 : Int)), ((127995 : Int), (127999 : Int), (32 : Int)), ((128000 : Int), (128065 : Int), (30 : Int)), ((128066 : Int), (128067 : Int), (31 : Int)), ((128068 : Int), (128069 : Int), (30 : Int)), ((128070 : Int), (128080 : Int), (31 : Int)), ((128081 : Int), (128101 : Int), (30 : Int)), ((128102 : Int), (128120 : Int), (31 : Int)), ((128121 : Int), (129791 : Int), (30 : Int)), ((131072 : Int), (262141 : Int), (30 : Int)), ((917505 : Int), (917631 : Int), (3 : Int)), ((917760 : Int), (917999 : Int), (3 : Int))])
noncomputable def linec_rows_F : Option (List (Int × Int × Int)) := (linec_rows_T).run
def linec_rows_L : List (Nat × LoopAnn) := []
noncomputable def linec_rows_C : List (Nat × Callee) := []
noncomputable def linec_rows_fun : Fun := ⟨[], [.row 185 Td], fun _ => linec_rows_F⟩
theorem linec_rows_ev (x : Tys.I []) : evFun G0 (of_ linec_rows_C) A0 (ol_ linec_rows_L) Tryz.f77 [] [.row 185 Td] x = linec_rows_T := by kernel_rfl
theorem linec_rows_ok : FunOk Tryz.prog 77 linec_rows_fun := evFun_ok mixed ctx0 (no_calls) Tryz.func77 (by kernel_rfl) _ (fun x => congrArg Tr.run (linec_rows_ev x)) (by kernel_rfl) (by kernel_rfl)
noncomputable def linec_Table_L4 (rs2 : List (Int × Int × Int)) (t9 : List (Int × Int × Int)) (t10 : Int) (t11 : Int) : Tr (Lap ((List (Int × Int × Int)) × (List (Int × Int × Int)) × Int × Int) (List (Int × Int × Int))) :=
  .br (decide (t11 < t10)) (
    .bnd (idx t9 t11) fun x_3 =>
    .bnd (idx ([x_3]) 0) fun x_4 =>
    .bnd (idx ([x_3]) 0) fun x_5 =>
    .bnd (idx ([x_3]) 0) fun x_6 =>
    .bnd (idx rs2 t11) fun x_7 =>
    .pure (.next (rs2.set (Int.toNat t11) (x_4.1, x_5.2.1, x_6.2.2), t9, t10, IntKind.i64.wrap (t11 + 1)))) (
    .pure (.done rs2))
noncomputable def linec_Table_T : Tr (List (Int × Int × Int)) :=
  .bnd linec_rows_F fun c_1 =>
  .bnd (mk 11728124029610 (0, (0, 0)) (c_1.length : Int)) fun r_2 =>
  .bnd (loopW (fun s => (linec_Table_L4 s.1 s.2.1 s.2.2.1 s.2.2.2).run) (r_2, c_1, (c_1.length : Int), 0)) fun l_8 =>
  .pure l_8
noncomputable def linec_Table_F : Option (List (Int × Int × Int)) := (linec_Table_T).run
def linec_Table_L : List (Nat × LoopAnn) := [(4, { head := [.srow 2 1000002 179 true Td, .srow 9 1000009 185 true Td, .sv 10 true Th, .sv 11 true Th], xid := 0, out := [.srow 2 1000002 179 true Td], hasRet := false, res := [] })]
noncomputable def linec_Table_C : List (Nat × Callee) := [(77, .plain linec_rows_fun)]
noncomputable def linec_Table_fun : Fun := ⟨[], [.row 179 Td], fun _ => linec_Table_F⟩
theorem linec_Table_ev (x : Tys.I []) : evFun G0 (of_ linec_Table_C) A0 (ol_ linec_Table_L) Tryz.f47 [] [.row 179 Td] x = linec_Table_T := by kernel_rfl
theorem linec_Table_ok : FunOk Tryz.prog 47 linec_Table_fun := evFun_ok mixed ctx0 (pc linec_rows_ok (no_calls)) Tryz.func47 (by kernel_rfl) _ (fun x => congrArg Tr.run (linec_Table_ev x)) (by kernel_rfl) (by kernel_rfl)
noncomputable def linec_syllable_T (r0 : Int) : Tr Int :=
  .br (((IntKind.i32.wrap (r0 - 44032)).tmod 28) == 0) (
    .pure 37) (
    .pure 38)
noncomputable def linec_syllable_F (r0 : Int) : Option Int := (linec_syllable_T r0).run
def linec_syllable_L : List (Nat × LoopAnn) := []
noncomputable def linec_syllable_C : List (Nat × Callee) := []
noncomputable def linec_syllable_fun : Fun := ⟨[Tj], [.v Ti], fun x => linec_syllable_F x.1⟩
theorem linec_syllable_ev (x : Tys.I [Tj]) : evFun G0 (of_ linec_syllable_C) A0 (ol_ linec_syllable_L) Tryz.f48 [Tj] [.v Ti] x = linec_syllable_T x.1 := by kernel_rfl
theorem linec_syllable_ok : FunOk Tryz.prog 48 linec_syllable_fun := evFun_ok mixed ctx0 (no_calls) Tryz.func48 (by kernel_rfl) _ (fun x => congrArg Tr.run (linec_syllable_ev x)) (by kernel_rfl) (by kernel_rfl)
noncomputable def linec_Of_L4 (table3 : List (Int × Int × Int)) (cs4 : List Int) (t11 : List Int) (t12 : Int) (t13 : Int) : Tr (Lap ((List (Int × Int × Int)) × List Int × List Int × Int × Int) (List Int)) :=
  .br (decide (t13 < t12)) (
    .bnd (idx t11 t13) fun x_3 =>
    .br (decide (44032 ≤ x_3)) (
      .br (decide (x_3 ≤ 55203)) (
        .bnd (linec_syllable_F x_3) fun c_4 =>
        .bnd (idx cs4 t13) fun x_5 =>
        .pure (.next (table3, cs4.set (Int.toNat t13) c_4, t11, t12, IntKind.i64.wrap (t13 + 1)))) (
        .bnd (ranges_Find_F table3 x_3 0) fun c_6 =>
        .bnd (idx cs4 t13) fun x_7 =>
        .pure (.next (table3, cs4.set (Int.toNat t13) c_6, t11, t12, IntKind.i64.wrap (t13 + 1))))) (
      .bnd (ranges_Find_F table3 x_3 0) fun c_8 =>
      .bnd (idx cs4 t13) fun x_9 =>
      .pure (.next (table3, cs4.set (Int.toNat t13) c_8, t11, t12, IntKind.i64.wrap (t13 + 1))))) (
    .pure (.done cs4))
noncomputable def linec_Of_T (rs0 : List Int) : Tr (List Int) :=
  .bnd linec_Table_F fun c_1 =>
  .bnd (mk 140737488355328 0 (rs0.length : Int)) fun r_2 =>
  .bnd (loopW (fun s => (linec_Of_L4 s.1 s.2.1 s.2.2.1 s.2.2.2.1 s.2.2.2.2).run) (c_1, r_2, rs0, (rs0.length : Int), 0)) fun l_10 =>
  .pure l_10
noncomputable def linec_Of_F (rs0 : List Int) : Option (List Int) := (linec_Of_T rs0).run
def linec_Of_L : List (Nat × LoopAnn) := [(4, { head := [.srow 3 1000003 179 true Td, .srow 4 1000004 114 true Ti, .sv 11 false Tg, .sv 12 true Th, .sv 13 true Th], xid := 0, out := [.srow 4 1000004 114 true Ti], hasRet := false, res := [] })]
noncomputable def linec_Of_C : List (Nat × Callee) := [(47, .plain linec_Table_fun), (48, .plain linec_syllable_fun), (44, .plain ranges_Find_fun)]
noncomputable def linec_Of_fun : Fun := ⟨[.sl Tj], [.row 114 Ti], fun x => linec_Of_F x.1⟩
theorem linec_Of_ev (x : Tys.I [.sl Tj]) : evFun G0 (of_ linec_Of_C) A0 (ol_ linec_Of_L) Tryz.f26 [.sl Tj] [.row 114 Ti] x = linec_Of_T x.1 := by kernel_rfl
theorem linec_Of_ok : FunOk Tryz.prog 26 linec_Of_fun := evFun_ok mixed ctx0 (pc linec_Table_ok (pc linec_syllable_ok (pc ranges_Find_ok (no_calls)))) Tryz.func26 (by kernel_rfl) _ (fun x => congrArg Tr.run (linec_Of_ev x)) (by kernel_rfl) (by kernel_rfl)
noncomputable def lbone_isMark_T (cs0 : List Int) (widths1 : List Int) (i2 : Int) : Tr Bool :=
  .bnd (idx cs0 i2) fun x_1 =>
  .br (x_1 == 3) (
    .pure true) (
    .br (x_1 == 4) (
      .pure true) (
      .br (x_1 == 40) (
        .br (decide (i2 < (widths1.length : Int))) (
          .bnd (idx widths1 i2) fun x_2 =>
          .pure (x_2 == 0)) (
          .pure false)) (
        .pure false)))
noncomputable def lbone_isMark_F (cs0 : List Int) (widths1 : List Int) (i2 : Int) : Option Bool := (lbone_isMark_T cs0 widths1 i2).run
def lbone_isMark_L : List (Nat × LoopAnn) := []
noncomputable def lbone_isMark_C : List (Nat × Callee) := []
noncomputable def lbone_isMark_fun : Fun := ⟨[.sl Ti, .sl Th, Th], [.v .bool], fun x => lbone_isMark_F x.1 x.2.1 x.2.2.1⟩
theorem lbone_isMark_ev (x : Tys.I [.sl Ti, .sl Th, Th]) : evFun G0 (of_ lbone_isMark_C) A0 (ol_ lbone_isMark_L) Tryz.f68 [.sl Ti, .sl Th, Th] [.v .bool] x = lbone_isMark_T x.1 x.2.1 x.2.2.1 := by kernel_rfl
theorem lbone_isMark_ok : FunOk Tryz.prog 68 lbone_isMark_fun := evFun_ok mixed ctx0 (no_calls) Tryz.func68 (by kernel_rfl) _ (fun x => congrArg Tr.run (lbone_isMark_ev x)) (by kernel_rfl) (by kernel_rfl)
noncomputable def lbone_takesMarks_T (c0 : Int) : Tr Bool :=
  .br (c0 == 5) (
    .pure false) (
    .br (c0 == 6) (
      .pure false) (
      .br (c0 == 7) (
        .pure false) (
        .br (c0 == 8) (
          .pure false) (
          .br (c0 == 9) (
            .pure false) (
            .br (c0 == 10) (
              .pure false) (
              .pure true))))))
noncomputable def lbone_takesMarks_F (c0 : Int) : Option Bool := (lbone_takesMarks_T c0).run
def lbone_takesMarks_L : List (Nat × LoopAnn) := []
noncomputable def lbone_takesMarks_C : List (Nat × Callee) := []
noncomputable def lbone_takesMarks_fun : Fun := ⟨[Ti], [.v .bool], fun x => lbone_takesMarks_F x.1⟩
theorem lbone_takesMarks_ev (x : Tys.I [Ti]) : evFun G0 (of_ lbone_takesMarks_C) A0 (ol_ lbone_takesMarks_L) Tryz.f69 [Ti] [.v .bool] x = lbone_takesMarks_T x.1 := by kernel_rfl
theorem lbone_takesMarks_ok : FunOk Tryz.prog 69 lbone_takesMarks_fun := evFun_ok mixed ctx0 (no_calls) Tryz.func69 (by kernel_rfl) _ (fun x => congrArg Tr.run (lbone_takesMarks_ev x)) (by kernel_rfl) (by kernel_rfl)
noncomputable def lbone_Class_T (c0 : Int) : Tr Int :=
  .br (c0 == 39) (
    .pure 1) (
    .br (c0 == 41) (
      .pure 1) (
      .br (c0 == 0) (
        .pure 1) (
        .br (c0 == 40) (
          .pure 1) (
          .br (c0 == 42) (
            .pure 18) (
            .pure c0)))))
noncomputable def lbone_Class_F (c0 : Int) : Option Int := (lbone_Class_T c0).run
def lbone_Class_L : List (Nat × LoopAnn) := []
noncomputable def lbone_Class_C : List (Nat × Callee) := []
noncomputable def lbone_Class_fun : Fun := ⟨[Ti], [.v Ti], fun x => lbone_Class_F x.1⟩
theorem lbone_Class_ev (x : Tys.I [Ti]) : evFun G0 (of_ lbone_Class_C) A0 (ol_ lbone_Class_L) Tryz.f70 [Ti] [.v Ti] x = lbone_Class_T x.1 := by kernel_rfl
theorem lbone_Class_ok : FunOk Tryz.prog 70 lbone_Class_fun := evFun_ok mixed ctx0 (no_calls) Tryz.func70 (by kernel_rfl) _ (fun x => congrArg Tr.run (lbone_Class_ev x)) (by kernel_rfl) (by kernel_rfl)
noncomputable def lbone_Units_L3 (cs0 : List Int) (widths1 : List Int) (us5 : List (Int × Int × Int × Bool)) (t12 : Int) (t13 : Int) : Tr (Lap (List Int × List Int × (List (Int × Int × Int × Bool)) × Int × Int) (List (Int × Int × Int × Bool))) :=
  .br (decide (t13 < t12)) (
    .bnd (lbone_isMark_F cs0 widths1 t13) fun c_1 =>
    .bnd (idx cs0 t13) fun x_2 =>
    .br c_1 (
      .br (decide ((IntKind.i64.wrap ((us5.length : Int) - 1)) ≥ 0)) (
        .bnd (idx us5 (IntKind.i64.wrap ((us5.length : Int) - 1))) fun x_3 =>
        .bnd (lbone_takesMarks_F x_3.2.2.1) fun c_4 =>
        .br c_4 (
          .bnd (idx us5 (IntKind.i64.wrap ((us5.length : Int) - 1))) fun x_5 =>
          .bnd (idx us5 (IntKind.i64.wrap ((us5.length : Int) - 1))) fun x_6 =>
          .bnd (idx (us5.set (Int.toNat (IntKind.i64.wrap ((us5.length : Int) - 1))) (x_6.1, IntKind.i64.wrap (t13 + 1), x_6.2.2)) (IntKind.i64.wrap ((us5.length : Int) - 1))) fun x_7 =>
          .bnd (idx (us5.set (Int.toNat (IntKind.i64.wrap ((us5.length : Int) - 1))) (x_6.1, IntKind.i64.wrap (t13 + 1), x_6.2.2)) (IntKind.i64.wrap ((us5.length : Int) - 1))) fun x_8 =>
          .pure (.next (cs0, widths1, (us5.set (Int.toNat (IntKind.i64.wrap ((us5.length : Int) - 1))) (x_6.1, IntKind.i64.wrap (t13 + 1), x_6.2.2)).set (Int.toNat (IntKind.i64.wrap ((us5.length : Int) - 1))) (x_8.1, x_8.2.1, x_8.2.2.1, x_2 == 4), t12, IntKind.i64.wrap (t13 + 1)))) (
          .bnd (idx cs0 t13) fun x_9 =>
          .bnd (lbone_Class_F x_9) fun c_10 =>
          .br c_1 (
            .bnd (app 5864062014805 us5 ([(t13, IntKind.i64.wrap (t13 + 1), (1 : Int), x_2 == 4)])) fun r_11 =>
            .pure (.next (cs0, widths1, r_11, t12, IntKind.i64.wrap (t13 + 1)))) (
            .bnd (app 5864062014805 us5 ([(t13, IntKind.i64.wrap (t13 + 1), c_10, x_2 == 4)])) fun r_12 =>
            .pure (.next (cs0, widths1, r_12, t12, IntKind.i64.wrap (t13 + 1)))))) (
        .bnd (idx cs0 t13) fun x_13 =>
        .bnd (lbone_Class_F x_13) fun c_14 =>
        .br c_1 (
          .bnd (app 5864062014805 us5 ([(t13, IntKind.i64.wrap (t13 + 1), (1 : Int), x_2 == 4)])) fun r_15 =>
          .pure (.next (cs0, widths1, r_15, t12, IntKind.i64.wrap (t13 + 1)))) (
          .bnd (app 5864062014805 us5 ([(t13, IntKind.i64.wrap (t13 + 1), c_14, x_2 == 4)])) fun r_16 =>
          .pure (.next (cs0, widths1, r_16, t12, IntKind.i64.wrap (t13 + 1)))))) (
      .bnd (idx cs0 t13) fun x_17 =>
      .bnd (lbone_Class_F x_17) fun c_18 =>
      .br c_1 (
        .bnd (app 5864062014805 us5 ([(t13, IntKind.i64.wrap (t13 + 1), (1 : Int), x_2 == 4)])) fun r_19 =>
        .pure (.next (cs0, widths1, r_19, t12, IntKind.i64.wrap (t13 + 1)))) (
        .bnd (app 5864062014805 us5 ([(t13, IntKind.i64.wrap (t13 + 1), c_18, x_2 == 4)])) fun r_20 =>
        .pure (.next (cs0, widths1, r_20, t12, IntKind.i64.wrap (t13 + 1)))))) (
    .pure (.done us5))
noncomputable def lbone_Units_T (cs0 : List Int) (widths1 : List Int) : Tr (List (Int × Int × Int × Bool)) :=
  .bnd (loopW (fun s => (lbone_Units_L3 s.1 s.2.1 s.2.2.1 s.2.2.2.1 s.2.2.2.2).run) (cs0, widths1, [], (cs0.length : Int), 0)) fun l_21 =>
  .pure l_21
noncomputable def lbone_Units_F (cs0 : List Int) (widths1 : List Int) : Option (List (Int × Int × Int × Bool)) := (lbone_Units_T cs0 widths1).run
def lbone_Units_L : List (Nat × LoopAnn) := [(3, { head := [.sv 0 false Tf, .sv 1 false Te, .srow 5 1000005 116 true (.st (.pair Th (.pair Th (.pair Ti .bool)))), .sv 12 true Th, .sv 13 true Th], xid := 0, out := [.srow 5 1000005 116 true (.st (.pair Th (.pair Th (.pair Ti .bool))))], hasRet := false, res := [] })]
noncomputable def lbone_Units_C : List (Nat × Callee) := [(68, .plain lbone_isMark_fun), (69, .plain lbone_takesMarks_fun), (70, .plain lbone_Class_fun)]
noncomputable def lbone_Units_fun : Fun := ⟨[.sl Ti, .sl Th], [.row 116 (.st (.pair Th (.pair Th (.pair Ti .bool))))], fun x => lbone_Units_F x.1 x.2.1⟩
theorem lbone_Units_ev (x : Tys.I [.sl Ti, .sl Th]) : evFun G0 (of_ lbone_Units_C) A0 (ol_ lbone_Units_L) Tryz.f41 [.sl Ti, .sl Th] [.row 116 (.st (.pair Th (.pair Th (.pair Ti .bool))))] x = lbone_Units_T x.1 x.2.1 := by kernel_rfl
theorem lbone_Units_ok : FunOk Tryz.prog 41 lbone_Units_fun := evFun_ok mixed ctx0 (pc lbone_isMark_ok (pc lbone_takesMarks_ok (pc lbone_Class_ok (no_calls)))) Tryz.func41 (by kernel_rfl) _ (fun x => congrArg Tr.run (lbone_Units_ev x)) (by kernel_rfl) (by kernel_rfl)
noncomputable def lbrule_ends_T (c0 : Int) : Tr Bool :=
  .br (c0 == 5) (
    .pure true) (
    .br (c0 == 6) (
      .pure true) (
      .br (c0 == 7) (
        .pure true) (
        .pure (c0 == 8))))
noncomputable def lbrule_ends_F (c0 : Int) : Option Bool := (lbrule_ends_T c0).run
def lbrule_ends_L : List (Nat × LoopAnn) := []
noncomputable def lbrule_ends_C : List (Nat × Callee) := []
noncomputable def lbrule_ends_fun : Fun := ⟨[Ti], [.v .bool], fun x => lbrule_ends_F x.1⟩
theorem lbrule_ends_ev (x : Tys.I [Ti]) : evFun G0 (of_ lbrule_ends_C) A0 (ol_ lbrule_ends_L) Tryz.f109 [Ti] [.v .bool] x = lbrule_ends_T x.1 := by kernel_rfl
theorem lbrule_ends_ok : FunOk Tryz.prog 109 lbrule_ends_fun := evFun_ok mixed ctx0 (no_calls) Tryz.func109 (by kernel_rfl) _ (fun x => congrArg Tr.run (lbrule_ends_ev x)) (by kernel_rfl) (by kernel_rfl)
noncomputable def lbrule_past_glued_T (p0 : Int × Int × Int × Bool × Bool × Bool × Bool) (c1 : Int) : Tr ((Int × Int × Int × Bool × Bool × Bool × Bool) × Bool) :=
  .bnd (idx ([p0]) 0) fun x_1 =>
  .br (c1 == 12) (
    .br (x_1.1 != 9) (
      .br (x_1.1 != 14) (
        .pure (p0, x_1.1 != 17)) (
        .pure (p0, false))) (
      .pure (p0, false))) (
    .br (c1 == 11) (
      .pure (p0, true)) (
      .br (x_1.1 == 11) (
        .pure (p0, true)) (
        .pure (p0, x_1.1 == 12))))
noncomputable def lbrule_past_glued_F (p0 : Int × Int × Int × Bool × Bool × Bool × Bool) (c1 : Int) : Option ((Int × Int × Int × Bool × Bool × Bool × Bool) × Bool) := (lbrule_past_glued_T p0 c1).run
def lbrule_past_glued_L : List (Nat × LoopAnn) := []
noncomputable def lbrule_past_glued_C : List (Nat × Callee) := []
noncomputable def lbrule_past_glued_fun : BFun := ⟨170, (.st (.pair Ti (.pair Ti (.pair Ti (.pair .bool (.pair .bool (.pair .bool .bool))))))), [Ti], [.v .bool], fun s x => lbrule_past_glued_F s x.1⟩
theorem lbrule_past_glued_ev (s : Int × Int × Int × Bool × Bool × Bool × Bool) (x : Tys.I [Ti]) : evFunB G0 (of_ lbrule_past_glued_C) A0 (ol_ lbrule_past_glued_L) Tryz.f110 170 (.st (.pair Ti (.pair Ti (.pair Ti (.pair .bool (.pair .bool (.pair .bool .bool))))))) [Ti] [.v .bool] s x = lbrule_past_glued_T s x.1 := by kernel_rfl
theorem lbrule_past_glued_ok : BoxOk Tryz.prog 110 lbrule_past_glued_fun := evFunB_ok mixed ctx0 (no_calls) Tryz.func110 (by kernel_rfl) rfl _ (fun s x => congrArg Tr.run (lbrule_past_glued_ev s x)) (by kernel_rfl)
noncomputable def lbrule_past_spaced_T (p0 : Int × Int × Int × Bool × Bool × Bool × Bool) (c1 : Int) : Tr ((Int × Int × Int × Bool × Bool × Bool × Bool) × Bool) :=
  .br (c1 == 19) (
    .pure (p0, true)) (
    .br (c1 == 20) (
      .pure (p0, true)) (
      .br (c1 == 23) (
        .pure (p0, true)) (
        .br (c1 == 25) (
          .pure (p0, true)) (
          .br (c1 == 26) (
            .pure (p0, true)) (
            .bnd (idx ([p0]) 0) fun x_1 =>
            .br (x_1.2.2.1 == 21) (
              .pure (p0, true)) (
              .br (c1 == 21) (
                .bnd (idx ([p0]) 0) fun x_2 =>
                .pure (p0, x_2.2.2.1 == 22)) (
                .br (c1 == 18) (
                  .bnd (idx ([p0]) 0) fun x_3 =>
                  .br (x_3.2.2.1 == 19) (
                    .pure (p0, true)) (
                    .bnd (idx ([p0]) 0) fun x_4 =>
                    .pure (p0, x_4.2.2.1 == 20))) (
                  .br (c1 == 16) (
                    .bnd (idx ([p0]) 0) fun x_5 =>
                    .pure (p0, x_5.2.2.1 == 16)) (
                    .pure (p0, false))))))))))
noncomputable def lbrule_past_spaced_F (p0 : Int × Int × Int × Bool × Bool × Bool × Bool) (c1 : Int) : Option ((Int × Int × Int × Bool × Bool × Bool × Bool) × Bool) := (lbrule_past_spaced_T p0 c1).run
def lbrule_past_spaced_L : List (Nat × LoopAnn) := []
noncomputable def lbrule_past_spaced_C : List (Nat × Callee) := []
noncomputable def lbrule_past_spaced_fun : BFun := ⟨170, (.st (.pair Ti (.pair Ti (.pair Ti (.pair .bool (.pair .bool (.pair .bool .bool))))))), [Ti], [.v .bool], fun s x => lbrule_past_spaced_F s x.1⟩
theorem lbrule_past_spaced_ev (s : Int × Int × Int × Bool × Bool × Bool × Bool) (x : Tys.I [Ti]) : evFunB G0 (of_ lbrule_past_spaced_C) A0 (ol_ lbrule_past_spaced_L) Tryz.f111 170 (.st (.pair Ti (.pair Ti (.pair Ti (.pair .bool (.pair .bool (.pair .bool .bool))))))) [Ti] [.v .bool] s x = lbrule_past_spaced_T s x.1 := by kernel_rfl
theorem lbrule_past_spaced_ok : BoxOk Tryz.prog 111 lbrule_past_spaced_fun := evFunB_ok mixed ctx0 (no_calls) Tryz.func111 (by kernel_rfl) rfl _ (fun s x => congrArg Tr.run (lbrule_past_spaced_ev s x)) (by kernel_rfl)
noncomputable def lbrule_past_counted_T (p0 : Int × Int × Int × Bool × Bool × Bool × Bool) (c1 : Int) : Tr ((Int × Int × Int × Bool × Bool × Bool × Bool) × Bool) :=
  .br (c1 == 27) (
    .bnd (idx ([p0]) 0) fun x_1 =>
    .pure (p0, x_1.2.2.2.2.1)) (
    .br (c1 == 29) (
      .bnd (idx ([p0]) 0) fun x_2 =>
      .br x_2.2.2.2.2.1 (
        .pure (p0, true)) (
        .bnd (idx ([p0]) 0) fun x_3 =>
        .pure (p0, x_3.2.2.2.2.2.1))) (
      .br (c1 == 28) (
        .bnd (idx ([p0]) 0) fun x_4 =>
        .br x_4.2.2.2.2.1 (
          .pure (p0, true)) (
          .bnd (idx ([p0]) 0) fun x_5 =>
          .pure (p0, x_5.2.2.2.2.2.1))) (
        .br (c1 == 33) (
          .bnd (idx ([p0]) 0) fun x_6 =>
          .pure (p0, x_6.2.2.2.2.2.2)) (
          .pure (p0, false)))))
noncomputable def lbrule_past_counted_F (p0 : Int × Int × Int × Bool × Bool × Bool × Bool) (c1 : Int) : Option ((Int × Int × Int × Bool × Bool × Bool × Bool) × Bool) := (lbrule_past_counted_T p0 c1).run
def lbrule_past_counted_L : List (Nat × LoopAnn) := []
noncomputable def lbrule_past_counted_C : List (Nat × Callee) := []
noncomputable def lbrule_past_counted_fun : BFun := ⟨170, (.st (.pair Ti (.pair Ti (.pair Ti (.pair .bool (.pair .bool (.pair .bool .bool))))))), [Ti], [.v .bool], fun s x => lbrule_past_counted_F s x.1⟩
theorem lbrule_past_counted_ev (s : Int × Int × Int × Bool × Bool × Bool × Bool) (x : Tys.I [Ti]) : evFunB G0 (of_ lbrule_past_counted_C) A0 (ol_ lbrule_past_counted_L) Tryz.f112 170 (.st (.pair Ti (.pair Ti (.pair Ti (.pair .bool (.pair .bool (.pair .bool .bool))))))) [Ti] [.v .bool] s x = lbrule_past_counted_T s x.1 := by kernel_rfl
theorem lbrule_past_counted_ok : BoxOk Tryz.prog 112 lbrule_past_counted_fun := evFunB_ok mixed ctx0 (no_calls) Tryz.func112 (by kernel_rfl) rfl _ (fun s x => congrArg Tr.run (lbrule_past_counted_ev s x)) (by kernel_rfl)
noncomputable def lbrule_letter_T (c0 : Int) : Tr Bool :=
  .br (c0 == 1) (
    .pure true) (
    .pure (c0 == 2))
noncomputable def lbrule_letter_F (c0 : Int) : Option Bool := (lbrule_letter_T c0).run
def lbrule_letter_L : List (Nat × LoopAnn) := []
noncomputable def lbrule_letter_C : List (Nat × Callee) := []
noncomputable def lbrule_letter_fun : Fun := ⟨[Ti], [.v .bool], fun x => lbrule_letter_F x.1⟩
theorem lbrule_letter_ev (x : Tys.I [Ti]) : evFun G0 (of_ lbrule_letter_C) A0 (ol_ lbrule_letter_L) Tryz.f139 [Ti] [.v .bool] x = lbrule_letter_T x.1 := by kernel_rfl
theorem lbrule_letter_ok : FunOk Tryz.prog 139 lbrule_letter_fun := evFun_ok mixed ctx0 (no_calls) Tryz.func139 (by kernel_rfl) _ (fun x => congrArg Tr.run (lbrule_letter_ev x)) (by kernel_rfl) (by kernel_rfl)
noncomputable def lbrule_ideograph_T (c0 : Int) : Tr Bool :=
  .br (c0 == 30) (
    .pure true) (
    .br (c0 == 31) (
      .pure true) (
      .pure (c0 == 32)))
noncomputable def lbrule_ideograph_F (c0 : Int) : Option Bool := (lbrule_ideograph_T c0).run
def lbrule_ideograph_L : List (Nat × LoopAnn) := []
noncomputable def lbrule_ideograph_C : List (Nat × Callee) := []
noncomputable def lbrule_ideograph_fun : Fun := ⟨[Ti], [.v .bool], fun x => lbrule_ideograph_F x.1⟩
theorem lbrule_ideograph_ev (x : Tys.I [Ti]) : evFun G0 (of_ lbrule_ideograph_C) A0 (ol_ lbrule_ideograph_L) Tryz.f140 [Ti] [.v .bool] x = lbrule_ideograph_T x.1 := by kernel_rfl
theorem lbrule_ideograph_ok : FunOk Tryz.prog 140 lbrule_ideograph_fun := evFun_ok mixed ctx0 (no_calls) Tryz.func140 (by kernel_rfl) _ (fun x => congrArg Tr.run (lbrule_ideograph_ev x)) (by kernel_rfl) (by kernel_rfl)
noncomputable def lbrule_syllable_T (c0 : Int) : Tr Bool :=
  .br (c0 == 34) (
    .pure true) (
    .br (c0 == 35) (
      .pure true) (
      .br (c0 == 36) (
        .pure true) (
        .br (c0 == 37) (
          .pure true) (
          .pure (c0 == 38)))))
noncomputable def lbrule_syllable_F (c0 : Int) : Option Bool := (lbrule_syllable_T c0).run
def lbrule_syllable_L : List (Nat × LoopAnn) := []
noncomputable def lbrule_syllable_C : List (Nat × Callee) := []
noncomputable def lbrule_syllable_fun : Fun := ⟨[Ti], [.v .bool], fun x => lbrule_syllable_F x.1⟩
theorem lbrule_syllable_ev (x : Tys.I [Ti]) : evFun G0 (of_ lbrule_syllable_C) A0 (ol_ lbrule_syllable_L) Tryz.f141 [Ti] [.v .bool] x = lbrule_syllable_T x.1 := by kernel_rfl
theorem lbrule_syllable_ok : FunOk Tryz.prog 141 lbrule_syllable_fun := evFun_ok mixed ctx0 (no_calls) Tryz.func141 (by kernel_rfl) _ (fun x => congrArg Tr.run (lbrule_syllable_ev x)) (by kernel_rfl) (by kernel_rfl)
noncomputable def lbrule_built_T (a0 : Int) (c1 : Int) : Tr Bool :=
  .br (a0 == 34) (
    .br (c1 == 34) (
      .pure true) (
      .br (c1 == 35) (
        .pure true) (
        .br (c1 == 37) (
          .pure true) (
          .br (c1 == 38) (
            .pure true) (
            .pure (c1 == 28)))))) (
    .br (a0 == 35) (
      .br (c1 == 35) (
        .pure true) (
        .br (c1 == 36) (
          .pure true) (
          .pure (c1 == 28)))) (
      .br (a0 == 37) (
        .br (c1 == 35) (
          .pure true) (
          .br (c1 == 36) (
            .pure true) (
            .pure (c1 == 28)))) (
        .br (a0 == 36) (
          .br (c1 == 36) (
            .pure true) (
            .pure (c1 == 28))) (
          .br (a0 == 38) (
            .br (c1 == 36) (
              .pure true) (
              .pure (c1 == 28))) (
            .pure false)))))
noncomputable def lbrule_built_F (a0 : Int) (c1 : Int) : Option Bool := (lbrule_built_T a0 c1).run
def lbrule_built_L : List (Nat × LoopAnn) := []
noncomputable def lbrule_built_C : List (Nat × Callee) := []
noncomputable def lbrule_built_fun : Fun := ⟨[Ti, Ti], [.v .bool], fun x => lbrule_built_F x.1 x.2.1⟩
theorem lbrule_built_ev (x : Tys.I [Ti, Ti]) : evFun G0 (of_ lbrule_built_C) A0 (ol_ lbrule_built_L) Tryz.f142 [Ti, Ti] [.v .bool] x = lbrule_built_T x.1 x.2.1 := by kernel_rfl
theorem lbrule_built_ok : FunOk Tryz.prog 142 lbrule_built_fun := evFun_ok mixed ctx0 (no_calls) Tryz.func142 (by kernel_rfl) _ (fun x => congrArg Tr.run (lbrule_built_ev x)) (by kernel_rfl) (by kernel_rfl)
noncomputable def lbrule_past_kept_T (p0 : Int × Int × Int × Bool × Bool × Bool × Bool) (c1 : Int) (next2 : Int) : Tr ((Int × Int × Int × Bool × Bool × Bool × Bool) × Bool) :=
  .br (c1 == 14) (
    .pure (p0, true)) (
    .br (c1 == 17) (
      .pure (p0, true)) (
      .br (c1 == 18) (
        .pure (p0, true)) (
        .br (c1 == 24) (
          .pure (p0, true)) (
          .bnd (idx ([p0]) 0) fun x_1 =>
          .br (x_1.1 == 15) (
            .pure (p0, true)) (
            .br (x_1.1 == 17) (
              .br (c1 == 27) (
                .pure (p0, true)) (
                .bnd (idx ([p0]) 0) fun x_2 =>
                .pure (p0, x_2.2.1 == 2))) (
              .br (x_1.1 == 14) (
                .bnd (idx ([p0]) 0) fun x_3 =>
                .pure (p0, x_3.2.1 == 2)) (
                .br (x_1.1 == 26) (
                  .pure (p0, c1 == 2)) (
                  .br (x_1.1 == 1) (
                    .br (c1 == 27) (
                      .pure (p0, true)) (
                      .br (c1 == 29) (
                        .pure (p0, true)) (
                        .br (c1 == 28) (
                          .pure (p0, true)) (
                          .br (c1 == 21) (
                            .pure (p0, true)) (
                            .bnd (lbrule_letter_F c1) fun c_4 =>
                            .pure (p0, c_4)))))) (
                    .br (x_1.1 == 2) (
                      .br (c1 == 27) (
                        .pure (p0, true)) (
                        .br (c1 == 29) (
                          .pure (p0, true)) (
                          .br (c1 == 28) (
                            .pure (p0, true)) (
                            .br (c1 == 21) (
                              .pure (p0, true)) (
                              .bnd (lbrule_letter_F c1) fun c_5 =>
                              .pure (p0, c_5)))))) (
                      .br (x_1.1 == 25) (
                        .bnd (lbrule_letter_F c1) fun c_6 =>
                        .pure (p0, c_6)) (
                        .br (x_1.1 == 27) (
                          .bnd (lbrule_letter_F c1) fun c_7 =>
                          .br c_7 (
                            .pure (p0, true)) (
                            .pure (p0, c1 == 21))) (
                          .br (x_1.1 == 20) (
                            .bnd (lbrule_letter_F c1) fun c_8 =>
                            .br c_8 (
                              .pure (p0, true)) (
                              .pure (p0, c1 == 27))) (
                            .br (x_1.1 == 29) (
                              .bnd (lbrule_ideograph_F c1) fun c_9 =>
                              .br c_9 (
                                .pure (p0, true)) (
                                .bnd (lbrule_syllable_F c1) fun c_10 =>
                                .br c_10 (
                                  .pure (p0, true)) (
                                  .bnd (lbrule_letter_F c1) fun c_11 =>
                                  .br c_11 (
                                    .pure (p0, true)) (
                                    .br (c1 == 27) (
                                      .pure (p0, true)) (
                                      .br (c1 == 21) (
                                        .pure (p0, next2 == 27)) (
                                        .pure (p0, false))))))) (
                              .br (x_1.1 == 28) (
                                .bnd (lbrule_letter_F c1) fun c_12 =>
                                .br c_12 (
                                  .pure (p0, true)) (
                                  .br (c1 == 27) (
                                    .pure (p0, true)) (
                                    .br (c1 == 21) (
                                      .pure (p0, next2 == 27)) (
                                      .pure (p0, false))))) (
                                .br (x_1.1 == 31) (
                                  .br (c1 == 32) (
                                    .pure (p0, true)) (
                                    .pure (p0, c1 == 28))) (
                                  .br (x_1.1 == 30) (
                                    .pure (p0, c1 == 28)) (
                                    .br (x_1.1 == 32) (
                                      .pure (p0, c1 == 28)) (
                                      .bnd (idx ([p0]) 0) fun x_13 =>
                                      .bnd (lbrule_built_F x_13.1 c1) fun c_14 =>
                                      .pure (p0, c_14)))))))))))))))))))
noncomputable def lbrule_past_kept_F (p0 : Int × Int × Int × Bool × Bool × Bool × Bool) (c1 : Int) (next2 : Int) : Option ((Int × Int × Int × Bool × Bool × Bool × Bool) × Bool) := (lbrule_past_kept_T p0 c1 next2).run
def lbrule_past_kept_L : List (Nat × LoopAnn) := []
noncomputable def lbrule_past_kept_C : List (Nat × Callee) := [(139, .plain lbrule_letter_fun), (140, .plain lbrule_ideograph_fun), (141, .plain lbrule_syllable_fun), (142, .plain lbrule_built_fun)]
noncomputable def lbrule_past_kept_fun : BFun := ⟨170, (.st (.pair Ti (.pair Ti (.pair Ti (.pair .bool (.pair .bool (.pair .bool .bool))))))), [Ti, Ti], [.v .bool], fun s x => lbrule_past_kept_F s x.1 x.2.1⟩
theorem lbrule_past_kept_ev (s : Int × Int × Int × Bool × Bool × Bool × Bool) (x : Tys.I [Ti, Ti]) : evFunB G0 (of_ lbrule_past_kept_C) A0 (ol_ lbrule_past_kept_L) Tryz.f113 170 (.st (.pair Ti (.pair Ti (.pair Ti (.pair .bool (.pair .bool (.pair .bool .bool))))))) [Ti, Ti] [.v .bool] s x = lbrule_past_kept_T s x.1 x.2.1 := by kernel_rfl
theorem lbrule_past_kept_ok : BoxOk Tryz.prog 113 lbrule_past_kept_fun := evFunB_ok mixed ctx0 (pc lbrule_letter_ok (pc lbrule_ideograph_ok (pc lbrule_syllable_ok (pc lbrule_built_ok (no_calls))))) Tryz.func113 (by kernel_rfl) rfl _ (fun s x => congrArg Tr.run (lbrule_past_kept_ev s x)) (by kernel_rfl)
noncomputable def lbrule_past_status_T (p0 : Int × Int × Int × Bool × Bool × Bool × Bool) (c1 : Int) (next2 : Int) : Tr ((Int × Int × Int × Bool × Bool × Bool × Bool) × Int) :=
  .bnd (idx ([p0]) 0) fun x_1 =>
  .br (x_1.1 == 6) (
    .br (c1 == 7) (
      .pure (p0, 0)) (
      .bnd (lbrule_ends_F x_1.1) fun c_2 =>
      .br c_2 (
        .pure (p0, 2)) (
        .bnd (lbrule_ends_F c1) fun c_3 =>
        .br c_3 (
          .pure (p0, 0)) (
          .br (c1 == 9) (
            .pure (p0, 0)) (
            .br (c1 == 10) (
              .pure (p0, 0)) (
              .bnd (idx ([p0]) 0) fun x_4 =>
              .br (x_4.2.2.1 == 10) (
                .pure (p0, 1)) (
                .bnd (idx ([p0]) 0) fun x_5 =>
                .br x_5.2.2.2.1 (
                  .pure (p0, 0)) (
                  .bnd (idx ([p0]) 0) fun x_6 =>
                  .bnd (lbrule_past_glued_F x_6 c1) fun c_7 =>
                  .br c_7.2 (
                    .pure (c_7.1, 0)) (
                    .bnd (idx ([c_7.1]) 0) fun x_8 =>
                    .bnd (lbrule_past_spaced_F x_8 c1) fun c_9 =>
                    .br c_9.2 (
                      .pure (c_9.1, 0)) (
                      .br (x_1.1 == 9) (
                        .pure (c_9.1, 1)) (
                        .br (c1 == 22) (
                          .pure (c_9.1, 0)) (
                          .br (x_1.1 == 22) (
                            .pure (c_9.1, 0)) (
                            .br (c1 == 13) (
                              .pure (c_9.1, 1)) (
                              .br (x_1.1 == 13) (
                                .pure (c_9.1, 1)) (
                                .bnd (idx ([c_9.1]) 0) fun x_10 =>
                                .bnd (lbrule_past_counted_F x_10 c1) fun c_11 =>
                                .br c_11.2 (
                                  .pure (c_11.1, 0)) (
                                  .bnd (idx ([c_11.1]) 0) fun x_12 =>
                                  .bnd (lbrule_past_kept_F x_12 c1 next2) fun c_13 =>
                                  .br c_13.2 (
                                    .pure (c_13.1, 0)) (
                                    .pure (c_13.1, 1)))))))))))))))))) (
    .bnd (lbrule_ends_F x_1.1) fun c_14 =>
    .br c_14 (
      .pure (p0, 2)) (
      .bnd (lbrule_ends_F c1) fun c_15 =>
      .br c_15 (
        .pure (p0, 0)) (
        .br (c1 == 9) (
          .pure (p0, 0)) (
          .br (c1 == 10) (
            .pure (p0, 0)) (
            .bnd (idx ([p0]) 0) fun x_16 =>
            .br (x_16.2.2.1 == 10) (
              .pure (p0, 1)) (
              .bnd (idx ([p0]) 0) fun x_17 =>
              .br x_17.2.2.2.1 (
                .pure (p0, 0)) (
                .bnd (idx ([p0]) 0) fun x_18 =>
                .bnd (lbrule_past_glued_F x_18 c1) fun c_19 =>
                .br c_19.2 (
                  .pure (c_19.1, 0)) (
                  .bnd (idx ([c_19.1]) 0) fun x_20 =>
                  .bnd (lbrule_past_spaced_F x_20 c1) fun c_21 =>
                  .br c_21.2 (
                    .pure (c_21.1, 0)) (
                    .br (x_1.1 == 9) (
                      .pure (c_21.1, 1)) (
                      .br (c1 == 22) (
                        .pure (c_21.1, 0)) (
                        .br (x_1.1 == 22) (
                          .pure (c_21.1, 0)) (
                          .br (c1 == 13) (
                            .pure (c_21.1, 1)) (
                            .br (x_1.1 == 13) (
                              .pure (c_21.1, 1)) (
                              .bnd (idx ([c_21.1]) 0) fun x_22 =>
                              .bnd (lbrule_past_counted_F x_22 c1) fun c_23 =>
                              .br c_23.2 (
                                .pure (c_23.1, 0)) (
                                .bnd (idx ([c_23.1]) 0) fun x_24 =>
                                .bnd (lbrule_past_kept_F x_24 c1 next2) fun c_25 =>
                                .br c_25.2 (
                                  .pure (c_25.1, 0)) (
                                  .pure (c_25.1, 1)))))))))))))))))
noncomputable def lbrule_past_status_F (p0 : Int × Int × Int × Bool × Bool × Bool × Bool) (c1 : Int) (next2 : Int) : Option ((Int × Int × Int × Bool × Bool × Bool × Bool) × Int) := (lbrule_past_status_T p0 c1 next2).run
def lbrule_past_status_L : List (Nat × LoopAnn) := []
noncomputable def lbrule_past_status_C : List (Nat × Callee) := [(109, .plain lbrule_ends_fun), (110, .lbox lbrule_past_glued_fun), (111, .lbox lbrule_past_spaced_fun), (112, .lbox lbrule_past_counted_fun), (113, .lbox lbrule_past_kept_fun)]
noncomputable def lbrule_past_status_fun : BFun := ⟨170, (.st (.pair Ti (.pair Ti (.pair Ti (.pair .bool (.pair .bool (.pair .bool .bool))))))), [Ti, Ti], [.v Th], fun s x => lbrule_past_status_F s x.1 x.2.1⟩
theorem lbrule_past_status_ev (s : Int × Int × Int × Bool × Bool × Bool × Bool) (x : Tys.I [Ti, Ti]) : evFunB G0 (of_ lbrule_past_status_C) ⟨[], [], [110, 111, 112, 113], [], [], []⟩ (ol_ lbrule_past_status_L) Tryz.f71 170 (.st (.pair Ti (.pair Ti (.pair Ti (.pair .bool (.pair .bool (.pair .bool .bool))))))) [Ti, Ti] [.v Th] s x = lbrule_past_status_T s x.1 x.2.1 := by kernel_rfl
theorem lbrule_past_status_ok : BoxOk Tryz.prog 71 lbrule_past_status_fun := evFunB_ok mixed ctx0 (pc lbrule_ends_ok (cons_calls (fb := .lbox lbrule_past_glued_fun) lbrule_past_glued_ok (fun h => by rfl) (cons_calls (fb := .lbox lbrule_past_spaced_fun) lbrule_past_spaced_ok (fun h => by rfl) (cons_calls (fb := .lbox lbrule_past_counted_fun) lbrule_past_counted_ok (fun h => by rfl) (cons_calls (fb := .lbox lbrule_past_kept_fun) lbrule_past_kept_ok (fun h => by rfl) (no_calls)))))) Tryz.func71 (by kernel_rfl) rfl _ (fun s x => congrArg Tr.run (lbrule_past_status_ev s x)) (by kernel_rfl)
noncomputable def lbrule_following_T (us0 : List (Int × Int × Int × Bool)) (i1 : Int) : Tr Int :=
  .br (decide ((IntKind.i64.wrap (i1 + 1)) < (us0.length : Int))) (
    .bnd (idx us0 (IntKind.i64.wrap (i1 + 1))) fun x_1 =>
    .pure x_1.2.2.1) (
    .pure 0)
noncomputable def lbrule_following_F (us0 : List (Int × Int × Int × Bool)) (i1 : Int) : Option Int := (lbrule_following_T us0 i1).run
def lbrule_following_L : List (Nat × LoopAnn) := []
noncomputable def lbrule_following_C : List (Nat × Callee) := []
noncomputable def lbrule_following_fun : Fun := ⟨[.sl (.st (.pair Th (.pair Th (.pair Ti .bool)))), Th], [.v Ti], fun x => lbrule_following_F x.1 x.2.1⟩
theorem lbrule_following_ev (x : Tys.I [.sl (.st (.pair Th (.pair Th (.pair Ti .bool)))), Th]) : evFun G0 (of_ lbrule_following_C) A0 (ol_ lbrule_following_L) Tryz.f72 [.sl (.st (.pair Th (.pair Th (.pair Ti .bool)))), Th] [.v Ti] x = lbrule_following_T x.1 x.2.1 := by kernel_rfl
theorem lbrule_following_ok : FunOk Tryz.prog 72 lbrule_following_fun := evFun_ok mixed ctx0 (no_calls) Tryz.func72 (by kernel_rfl) _ (fun x => congrArg Tr.run (lbrule_following_ev x)) (by kernel_rfl) (by kernel_rfl)
noncomputable def lbrule_past_add_T (p0 : Int × Int × Int × Bool × Bool × Bool × Bool) (u1 : Int × Int × Int × Bool) : Tr ((Int × Int × Int × Bool × Bool × Bool × Bool) × Unit) :=
  .bnd (idx ([p0]) 0) fun x_1 =>
  .bnd (idx ([p0]) 0) fun x_2 =>
  .bnd (idx ([(x_2.1, x_1.1, x_2.2.2)]) 0) fun x_3 =>
  .br (u1.2.2.1 != 9) (
    .bnd (idx ([(u1.2.2.1, x_3.2)]) 0) fun x_4 =>
    .bnd (idx ([(x_4.1, x_4.2.1, u1.2.2.1, x_4.2.2.2)]) 0) fun x_5 =>
    .bnd (Tr.run (
    .bnd (idx ([(x_5.1, x_5.2.1, x_5.2.2.1, u1.2.2.2, x_5.2.2.2.2)]) 0) fun x_6 =>
    .br x_6.2.2.2.2.1 (
      .br (u1.2.2.1 == 19) (
        .pure ((x_5.1, x_5.2.1, x_5.2.2.1, u1.2.2.2, x_5.2.2.2.2), u1.2.2.1, true)) (
        .pure ((x_5.1, x_5.2.1, x_5.2.2.1, u1.2.2.2, x_5.2.2.2.2), u1.2.2.1, u1.2.2.1 == 20))) (
      .pure ((x_5.1, x_5.2.1, x_5.2.2.1, u1.2.2.2, x_5.2.2.2.2), u1.2.2.1, false)) : Tr ((Int × Int × Int × Bool × Bool × Bool × Bool) × Int × Bool))) fun j_7 =>
    .bnd (idx ([j_7.1]) 0) fun x_8 =>
    .bnd (Tr.run (
    .br (j_7.2.1 == 27) (
      .pure ((x_8.1, x_8.2.1, x_8.2.2.1, x_8.2.2.2.1, x_8.2.2.2.2.1, j_7.2.2, x_8.2.2.2.2.2.2), j_7.2.1, true)) (
      .bnd (idx ([(x_8.1, x_8.2.1, x_8.2.2.1, x_8.2.2.2.1, x_8.2.2.2.2.1, j_7.2.2, x_8.2.2.2.2.2.2)]) 0) fun x_9 =>
      .br x_9.2.2.2.2.1 (
        .br (j_7.2.1 == 26) (
          .pure ((x_8.1, x_8.2.1, x_8.2.2.1, x_8.2.2.2.1, x_8.2.2.2.2.1, j_7.2.2, x_8.2.2.2.2.2.2), j_7.2.1, true)) (
          .pure ((x_8.1, x_8.2.1, x_8.2.2.1, x_8.2.2.2.1, x_8.2.2.2.2.1, j_7.2.2, x_8.2.2.2.2.2.2), j_7.2.1, j_7.2.1 == 25))) (
        .pure ((x_8.1, x_8.2.1, x_8.2.2.1, x_8.2.2.2.1, x_8.2.2.2.2.1, j_7.2.2, x_8.2.2.2.2.2.2), j_7.2.1, false))) : Tr ((Int × Int × Int × Bool × Bool × Bool × Bool) × Int × Bool))) fun j_10 =>
    .bnd (idx ([j_10.1]) 0) fun x_11 =>
    .br (j_10.2.1 == 33) (
      .bnd (idx ([(x_11.1, x_11.2.1, x_11.2.2.1, x_11.2.2.2.1, j_10.2.2, x_11.2.2.2.2.2)]) 0) fun x_12 =>
      .bnd (idx ([(x_11.1, x_11.2.1, x_11.2.2.1, x_11.2.2.2.1, j_10.2.2, x_11.2.2.2.2.2)]) 0) fun x_13 =>
      .pure ((x_13.1, x_13.2.1, x_13.2.2.1, x_13.2.2.2.1, x_13.2.2.2.2.1, x_13.2.2.2.2.2.1, !x_12.2.2.2.2.2.2), ())) (
      .bnd (idx ([(x_11.1, x_11.2.1, x_11.2.2.1, x_11.2.2.2.1, j_10.2.2, x_11.2.2.2.2.2)]) 0) fun x_14 =>
      .pure ((x_14.1, x_14.2.1, x_14.2.2.1, x_14.2.2.2.1, x_14.2.2.2.2.1, x_14.2.2.2.2.2.1, false), ()))) (
    .bnd (idx ([(u1.2.2.1, x_3.2)]) 0) fun x_15 =>
    .bnd (Tr.run (
    .bnd (idx ([(x_15.1, x_15.2.1, x_15.2.2.1, u1.2.2.2, x_15.2.2.2.2)]) 0) fun x_16 =>
    .br x_16.2.2.2.2.1 (
      .br (u1.2.2.1 == 19) (
        .pure ((x_15.1, x_15.2.1, x_15.2.2.1, u1.2.2.2, x_15.2.2.2.2), u1.2.2.1, true)) (
        .pure ((x_15.1, x_15.2.1, x_15.2.2.1, u1.2.2.2, x_15.2.2.2.2), u1.2.2.1, u1.2.2.1 == 20))) (
      .pure ((x_15.1, x_15.2.1, x_15.2.2.1, u1.2.2.2, x_15.2.2.2.2), u1.2.2.1, false)) : Tr ((Int × Int × Int × Bool × Bool × Bool × Bool) × Int × Bool))) fun j_17 =>
    .bnd (idx ([j_17.1]) 0) fun x_18 =>
    .bnd (Tr.run (
    .br (j_17.2.1 == 27) (
      .pure ((x_18.1, x_18.2.1, x_18.2.2.1, x_18.2.2.2.1, x_18.2.2.2.2.1, j_17.2.2, x_18.2.2.2.2.2.2), j_17.2.1, true)) (
      .bnd (idx ([(x_18.1, x_18.2.1, x_18.2.2.1, x_18.2.2.2.1, x_18.2.2.2.2.1, j_17.2.2, x_18.2.2.2.2.2.2)]) 0) fun x_19 =>
      .br x_19.2.2.2.2.1 (
        .br (j_17.2.1 == 26) (
          .pure ((x_18.1, x_18.2.1, x_18.2.2.1, x_18.2.2.2.1, x_18.2.2.2.2.1, j_17.2.2, x_18.2.2.2.2.2.2), j_17.2.1, true)) (
          .pure ((x_18.1, x_18.2.1, x_18.2.2.1, x_18.2.2.2.1, x_18.2.2.2.2.1, j_17.2.2, x_18.2.2.2.2.2.2), j_17.2.1, j_17.2.1 == 25))) (
        .pure ((x_18.1, x_18.2.1, x_18.2.2.1, x_18.2.2.2.1, x_18.2.2.2.2.1, j_17.2.2, x_18.2.2.2.2.2.2), j_17.2.1, false))) : Tr ((Int × Int × Int × Bool × Bool × Bool × Bool) × Int × Bool))) fun j_20 =>
    .bnd (idx ([j_20.1]) 0) fun x_21 =>
    .br (j_20.2.1 == 33) (
      .bnd (idx ([(x_21.1, x_21.2.1, x_21.2.2.1, x_21.2.2.2.1, j_20.2.2, x_21.2.2.2.2.2)]) 0) fun x_22 =>
      .bnd (idx ([(x_21.1, x_21.2.1, x_21.2.2.1, x_21.2.2.2.1, j_20.2.2, x_21.2.2.2.2.2)]) 0) fun x_23 =>
      .pure ((x_23.1, x_23.2.1, x_23.2.2.1, x_23.2.2.2.1, x_23.2.2.2.2.1, x_23.2.2.2.2.2.1, !x_22.2.2.2.2.2.2), ())) (
      .bnd (idx ([(x_21.1, x_21.2.1, x_21.2.2.1, x_21.2.2.2.1, j_20.2.2, x_21.2.2.2.2.2)]) 0) fun x_24 =>
      .pure ((x_24.1, x_24.2.1, x_24.2.2.1, x_24.2.2.2.1, x_24.2.2.2.2.1, x_24.2.2.2.2.2.1, false), ())))
noncomputable def lbrule_past_add_F (p0 : Int × Int × Int × Bool × Bool × Bool × Bool) (u1 : Int × Int × Int × Bool) : Option ((Int × Int × Int × Bool × Bool × Bool × Bool) × Unit) := (lbrule_past_add_T p0 u1).run
def lbrule_past_add_L : List (Nat × LoopAnn) := []
noncomputable def lbrule_past_add_C : List (Nat × Callee) := []
noncomputable def lbrule_past_add_fun : BFun := ⟨170, (.st (.pair Ti (.pair Ti (.pair Ti (.pair .bool (.pair .bool (.pair .bool .bool))))))), [.st (.pair Th (.pair Th (.pair Ti .bool)))], [], fun s x => lbrule_past_add_F s x.1⟩
theorem lbrule_past_add_ev (s : Int × Int × Int × Bool × Bool × Bool × Bool) (x : Tys.I [.st (.pair Th (.pair Th (.pair Ti .bool)))]) : evFunB G0 (of_ lbrule_past_add_C) ⟨[], [], [], [], [(6, [(13, [.slbox 0 170 (.st (.pair Ti (.pair Ti (.pair Ti (.pair .bool (.pair .bool (.pair .bool .bool))))))), .sv 4 true Ti, .slptr 29 (.st (.pair Ti (.pair Ti (.pair Ti (.pair .bool (.pair .bool (.pair .bool .bool))))))), .sv 41 true .bool])]), (7, [(17, [.slbox 0 170 (.st (.pair Ti (.pair Ti (.pair Ti (.pair .bool (.pair .bool (.pair .bool .bool))))))), .sv 4 true Ti, .slptr 44 (.st (.pair Ti (.pair Ti (.pair Ti (.pair .bool (.pair .bool (.pair .bool .bool))))))), .sv 60 true .bool])])], []⟩ (ol_ lbrule_past_add_L) Tryz.f73 170 (.st (.pair Ti (.pair Ti (.pair Ti (.pair .bool (.pair .bool (.pair .bool .bool))))))) [.st (.pair Th (.pair Th (.pair Ti .bool)))] [] s x = lbrule_past_add_T s x.1 := by kernel_rfl
theorem lbrule_past_add_ok : BoxOk Tryz.prog 73 lbrule_past_add_fun := evFunB_ok mixed ctx0 (no_calls) Tryz.func73 (by kernel_rfl) rfl _ (fun s x => congrArg Tr.run (lbrule_past_add_ev s x)) (by kernel_rfl)
noncomputable def lbrule_Between_L4 (us0 : List (Int × Int × Int × Bool)) (ss3 : List Int) (p4 : Int × Int × Int × Bool × Bool × Bool × Bool) (t11 : List (Int × Int × Int × Bool)) (t12 : Int) (t13 : Int) : Tr (Lap ((List (Int × Int × Int × Bool)) × List Int × (Int × Int × Int × Bool × Bool × Bool × Bool) × (List (Int × Int × Int × Bool)) × Int × Int) (List Int)) :=
  .br (decide (t13 < t12)) (
    .bnd (idx t11 t13) fun x_2 =>
    .br (decide (t13 > 0)) (
      .bnd (idx ([x_2]) 0) fun x_3 =>
      .bnd (lbrule_following_F us0 t13) fun c_4 =>
      .bnd (idx ([p4]) 0) fun x_5 =>
      .bnd (lbrule_past_status_F x_5 x_3.2.2.1 c_4) fun c_6 =>
      .bnd (idx ss3 t13) fun x_7 =>
      .bnd (idx ([x_2]) 0) fun x_8 =>
      .bnd (idx ([c_6.1]) 0) fun x_9 =>
      .bnd (lbrule_past_add_F x_9 x_8) fun c_10 =>
      .pure (.next (us0, ss3.set (Int.toNat t13) c_6.2, c_10.1, t11, t12, IntKind.i64.wrap (t13 + 1)))) (
      .bnd (idx ([x_2]) 0) fun x_11 =>
      .bnd (idx ([p4]) 0) fun x_12 =>
      .bnd (lbrule_past_add_F x_12 x_11) fun c_13 =>
      .pure (.next (us0, ss3, c_13.1, t11, t12, IntKind.i64.wrap (t13 + 1))))) (
    .pure (.done ss3))
noncomputable def lbrule_Between_T (us0 : List (Int × Int × Int × Bool)) : Tr (List Int) :=
  .bnd (mk 17592186044416 0 (us0.length : Int)) fun r_1 =>
  .bnd (loopW (fun s => (lbrule_Between_L4 s.1 s.2.1 s.2.2.1 s.2.2.2.1 s.2.2.2.2.1 s.2.2.2.2.2).run) (us0, r_1, ((0 : Int), (0 : Int), (9 : Int), false, false, false, false), us0, (us0.length : Int), 0)) fun l_14 =>
  .pure l_14
noncomputable def lbrule_Between_F (us0 : List (Int × Int × Int × Bool)) : Option (List Int) := (lbrule_Between_T us0).run
def lbrule_Between_L : List (Nat × LoopAnn) := [(4, { head := [.sv 0 false (.sl (.st (.pair Th (.pair Th (.pair Ti .bool))))), .srow 3 1000003 113 true Th, .sbox 4 1000004 170 true (.st (.pair Ti (.pair Ti (.pair Ti (.pair .bool (.pair .bool (.pair .bool .bool))))))), .sv 11 false (.sl (.st (.pair Th (.pair Th (.pair Ti .bool))))), .sv 12 true Th, .sv 13 true Th], xid := 0, out := [.srow 3 1000003 113 true Th], hasRet := false, res := [] })]
noncomputable def lbrule_Between_C : List (Nat × Callee) := [(72, .plain lbrule_following_fun), (71, .lbox lbrule_past_status_fun), (73, .lbox lbrule_past_add_fun)]
noncomputable def lbrule_Between_fun : Fun := ⟨[.sl (.st (.pair Th (.pair Th (.pair Ti .bool))))], [.row 113 Th], fun x => lbrule_Between_F x.1⟩
theorem lbrule_Between_ev (x : Tys.I [.sl (.st (.pair Th (.pair Th (.pair Ti .bool))))]) : evFun G0 (of_ lbrule_Between_C) ⟨[], [], [71, 73], [], [], []⟩ (ol_ lbrule_Between_L) Tryz.f42 [.sl (.st (.pair Th (.pair Th (.pair Ti .bool))))] [.row 113 Th] x = lbrule_Between_T x.1 := by kernel_rfl
theorem lbrule_Between_ok : FunOk Tryz.prog 42 lbrule_Between_fun := evFun_ok mixed ctx0 (pc lbrule_following_ok (cons_calls (fb := .lbox lbrule_past_status_fun) lbrule_past_status_ok (fun h => by rfl) (cons_calls (fb := .lbox lbrule_past_add_fun) lbrule_past_add_ok (fun h => by rfl) (no_calls)))) Tryz.func42 (by kernel_rfl) _ (fun x => congrArg Tr.run (lbrule_Between_ev x)) (by kernel_rfl) (by kernel_rfl)
noncomputable def linebreak_Of_L4 (rs0 : List Int) (ss3 : List Int) (us4 : List (Int × Int × Int × Bool)) (t17 : List Int) (t18 : Int) (t19 : Int) : Tr (Lap (List Int × List Int × (List (Int × Int × Int × Bool)) × List Int × Int × Int) (List Int × List Int)) :=
  .br (decide (t19 < t18)) (
    .bnd (idx t17 t19) fun x_6 =>
    .bnd (idx us4 t19) fun x_7 =>
    .bnd (idx ss3 x_7.1) fun x_8 =>
    .pure (.next (rs0, ss3.set (Int.toNat x_7.1) x_6, us4, t17, t18, IntKind.i64.wrap (t19 + 1)))) (
    .pure (.done (rs0, ss3)))
noncomputable def linebreak_Of_T (rs0 : List Int) : Tr (List Int) :=
  .bnd (mk 17592186044416 0 (IntKind.i64.wrap ((rs0.length : Int) + 1))) fun r_1 =>
  .bnd (linec_Of_F rs0) fun c_2 =>
  .bnd (cellw_Of_F rs0) fun c_3 =>
  .bnd (lbone_Units_F c_2 c_3) fun c_4 =>
  .bnd (lbrule_Between_F c_4) fun c_5 =>
  .bnd (loopW (fun s => (linebreak_Of_L4 s.1 s.2.1 s.2.2.1 s.2.2.2.1 s.2.2.2.2.1 s.2.2.2.2.2).run) (rs0, r_1, c_4, c_5, (c_5.length : Int), 0)) fun l_9 =>
  .br (decide ((l_9.1.length : Int) > 0)) (
    .bnd (idx l_9.2 (l_9.1.length : Int)) fun x_10 =>
    .pure (l_9.2.set (Int.toNat (l_9.1.length : Int)) 2)) (
    .pure l_9.2)
noncomputable def linebreak_Of_F (rs0 : List Int) : Option (List Int) := (linebreak_Of_T rs0).run
def linebreak_Of_L : List (Nat × LoopAnn) := [(4, { head := [.sv 0 false Tg, .srow 3 1000003 113 true Th, .srow 4 1000004 116 true (.st (.pair Th (.pair Th (.pair Ti .bool)))), .srow 17 1000017 113 true Th, .sv 18 true Th, .sv 19 true Th], xid := 0, out := [.sv 0 false Tg, .srow 3 1000003 113 true Th], hasRet := false, res := [] })]
noncomputable def linebreak_Of_C : List (Nat × Callee) := [(26, .plain linec_Of_fun), (23, .plain cellw_Of_fun), (41, .plain lbone_Units_fun), (42, .plain lbrule_Between_fun)]
noncomputable def linebreak_Of_fun : Fun := ⟨[.sl Tj], [.row 113 Th], fun x => linebreak_Of_F x.1⟩
theorem linebreak_Of_ev (x : Tys.I [.sl Tj]) : evFun G0 (of_ linebreak_Of_C) A0 (ol_ linebreak_Of_L) Tryz.f22 [.sl Tj] [.row 113 Th] x = linebreak_Of_T x.1 := by kernel_rfl
theorem linebreak_Of_ok : FunOk Tryz.prog 22 linebreak_Of_fun := evFun_ok mixed ctx0 (pc linec_Of_ok (pc cellw_Of_ok (pc lbone_Units_ok (pc lbrule_Between_ok (no_calls))))) Tryz.func22 (by kernel_rfl) _ (fun x => congrArg Tr.run (linebreak_Of_ev x)) (by kernel_rfl) (by kernel_rfl)
noncomputable def measure_Ruler_Count_T (r0 : List Int × List Int) : Tr Int :=
  .pure (r0.1.length : Int)
noncomputable def measure_Ruler_Count_F (r0 : List Int × List Int) : Option Int := (measure_Ruler_Count_T r0).run
def measure_Ruler_Count_L : List (Nat × LoopAnn) := []
noncomputable def measure_Ruler_Count_C : List (Nat × Callee) := []
noncomputable def measure_Ruler_Count_fun : Fun := ⟨[.ptr (.st (.pair Te Te))], [.v Th], fun x => measure_Ruler_Count_F x.1⟩
theorem measure_Ruler_Count_ev (x : Tys.I [.ptr (.st (.pair Te Te))]) : evFun G0 (of_ measure_Ruler_Count_C) A0 (ol_ measure_Ruler_Count_L) Tryz.f45 [.ptr (.st (.pair Te Te))] [.v Th] x = measure_Ruler_Count_T x.1 := by kernel_rfl
theorem measure_Ruler_Count_ok : FunOk Tryz.prog 45 measure_Ruler_Count_fun := evFun_ok mixed ctx0 (no_calls) Tryz.func45 (by kernel_rfl) _ (fun x => congrArg Tr.run (measure_Ruler_Count_ev x)) (by kernel_rfl) (by kernel_rfl)
noncomputable def measure_upTo_T (known0 : List Int) (at1 : Int) : Tr Int :=
  .br (at1 == 0) (
    .pure 0) (
    .bnd (idx known0 (IntKind.i64.wrap (at1 - 1))) fun x_1 =>
    .pure x_1)
noncomputable def measure_upTo_F (known0 : List Int) (at1 : Int) : Option Int := (measure_upTo_T known0 at1).run
def measure_upTo_L : List (Nat × LoopAnn) := []
noncomputable def measure_upTo_C : List (Nat × Callee) := []
noncomputable def measure_upTo_fun : Fun := ⟨[.sl Th, Th], [.v Th], fun x => measure_upTo_F x.1 x.2.1⟩
theorem measure_upTo_ev (x : Tys.I [.sl Th, Th]) : evFun G0 (of_ measure_upTo_C) A0 (ol_ measure_upTo_L) Tryz.f115 [.sl Th, Th] [.v Th] x = measure_upTo_T x.1 x.2.1 := by kernel_rfl
theorem measure_upTo_ok : FunOk Tryz.prog 115 measure_upTo_fun := evFun_ok mixed ctx0 (no_calls) Tryz.func115 (by kernel_rfl) _ (fun x => congrArg Tr.run (measure_upTo_ev x)) (by kernel_rfl) (by kernel_rfl)
noncomputable def measure_Ruler_Cells_T (r0 : List Int × List Int) (from1 : Int) (to2 : Int) : Tr Int :=
  .br (decide (from1 < 0)) (
    .pure 0) (
    .br (decide (from1 > to2)) (
      .pure 0) (
      .bnd (measure_Ruler_Count_F r0) fun c_1 =>
      .br (decide (to2 > c_1)) (
        .pure 0) (
        .bnd (measure_upTo_F r0.1 to2) fun c_2 =>
        .bnd (measure_upTo_F r0.1 from1) fun c_3 =>
        .pure (IntKind.i64.wrap (c_2 - c_3)))))
noncomputable def measure_Ruler_Cells_F (r0 : List Int × List Int) (from1 : Int) (to2 : Int) : Option Int := (measure_Ruler_Cells_T r0 from1 to2).run
def measure_Ruler_Cells_L : List (Nat × LoopAnn) := []
noncomputable def measure_Ruler_Cells_C : List (Nat × Callee) := [(45, .plain measure_Ruler_Count_fun), (115, .plain measure_upTo_fun)]
noncomputable def measure_Ruler_Cells_fun : Fun := ⟨[.ptr (.st (.pair Te Te)), Th, Th], [.v Th], fun x => measure_Ruler_Cells_F x.1 x.2.1 x.2.2.1⟩
theorem measure_Ruler_Cells_ev (x : Tys.I [.ptr (.st (.pair Te Te)), Th, Th]) : evFun G0 (of_ measure_Ruler_Cells_C) ⟨[], [(3, [0, 1, 2, 3, 4, 6, 7, 8, 9, 10, 5, 11, 12, 13])], [], [], [], []⟩ (ol_ measure_Ruler_Cells_L) Tryz.f114 [.ptr (.st (.pair Te Te)), Th, Th] [.v Th] x = measure_Ruler_Cells_T x.1 x.2.1 x.2.2.1 := by kernel_rfl
theorem measure_Ruler_Cells_ok : FunOk Tryz.prog 114 measure_Ruler_Cells_fun := evFun_ok mixed ctx0 (pc measure_Ruler_Count_ok (pc measure_upTo_ok (no_calls))) Tryz.func114 (by kernel_rfl) _ (fun x => congrArg Tr.run (measure_Ruler_Cells_ev x)) (by kernel_rfl) (by kernel_rfl)
noncomputable def measure_Ruler_Shown_T (r0 : List Int × List Int) (from1 : Int) (to2 : Int) : Tr Int :=
  .br (decide (to2 < 0)) (
    .pure 0) (
    .bnd (measure_Ruler_Count_F r0) fun c_1 =>
    .br (decide (to2 > c_1)) (
      .pure 0) (
      .bnd (measure_upTo_F r0.2 to2) fun c_2 =>
      .bnd (measure_Ruler_Cells_F r0 from1 (if (if c_2 > from1 then c_2 else from1) < to2 then (if c_2 > from1 then c_2 else from1) else to2)) fun c_3 =>
      .pure c_3))
noncomputable def measure_Ruler_Shown_F (r0 : List Int × List Int) (from1 : Int) (to2 : Int) : Option Int := (measure_Ruler_Shown_T r0 from1 to2).run
def measure_Ruler_Shown_L : List (Nat × LoopAnn) := []
noncomputable def measure_Ruler_Shown_C : List (Nat × Callee) := [(45, .plain measure_Ruler_Count_fun), (115, .plain measure_upTo_fun), (114, .plain measure_Ruler_Cells_fun)]
noncomputable def measure_Ruler_Shown_fun : Fun := ⟨[.ptr (.st (.pair Te Te)), Th, Th], [.v Th], fun x => measure_Ruler_Shown_F x.1 x.2.1 x.2.2.1⟩
theorem measure_Ruler_Shown_ev (x : Tys.I [.ptr (.st (.pair Te Te)), Th, Th]) : evFun G0 (of_ measure_Ruler_Shown_C) A0 (ol_ measure_Ruler_Shown_L) Tryz.f75 [.ptr (.st (.pair Te Te)), Th, Th] [.v Th] x = measure_Ruler_Shown_T x.1 x.2.1 x.2.2.1 := by kernel_rfl
theorem measure_Ruler_Shown_ok : FunOk Tryz.prog 75 measure_Ruler_Shown_fun := evFun_ok mixed ctx0 (pc measure_Ruler_Count_ok (pc measure_upTo_ok (pc measure_Ruler_Cells_ok (no_calls)))) Tryz.func75 (by kernel_rfl) _ (fun x => congrArg Tr.run (measure_Ruler_Shown_ev x)) (by kernel_rfl) (by kernel_rfl)
noncomputable def measure_Ruler_Whole_T (r0 : List Int × List Int) (at1 : Int) : Tr Bool :=
  .bnd (measure_Ruler_Count_F r0) fun c_1 =>
  .br (at1 == c_1) (
    .pure true) (
    .bnd (measure_Ruler_Cells_F r0 at1 (IntKind.i64.wrap (at1 + 1))) fun c_2 =>
    .pure (c_2 != 0))
noncomputable def measure_Ruler_Whole_F (r0 : List Int × List Int) (at1 : Int) : Option Bool := (measure_Ruler_Whole_T r0 at1).run
def measure_Ruler_Whole_L : List (Nat × LoopAnn) := []
noncomputable def measure_Ruler_Whole_C : List (Nat × Callee) := [(45, .plain measure_Ruler_Count_fun), (114, .plain measure_Ruler_Cells_fun)]
noncomputable def measure_Ruler_Whole_fun : Fun := ⟨[.ptr (.st (.pair Te Te)), Th], [.v .bool], fun x => measure_Ruler_Whole_F x.1 x.2.1⟩
theorem measure_Ruler_Whole_ev (x : Tys.I [.ptr (.st (.pair Te Te)), Th]) : evFun G0 (of_ measure_Ruler_Whole_C) A0 (ol_ measure_Ruler_Whole_L) Tryz.f76 [.ptr (.st (.pair Te Te)), Th] [.v .bool] x = measure_Ruler_Whole_T x.1 x.2.1 := by kernel_rfl
theorem measure_Ruler_Whole_ok : FunOk Tryz.prog 76 measure_Ruler_Whole_fun := evFun_ok mixed ctx0 (pc measure_Ruler_Count_ok (pc measure_Ruler_Cells_ok (no_calls))) Tryz.func76 (by kernel_rfl) _ (fun x => congrArg Tr.run (measure_Ruler_Whole_ev x)) (by kernel_rfl) (by kernel_rfl)
noncomputable def fill_end_L3 (r0 : List Int × List Int) (ss1 : List Int) (from2 : Int) (width3 : Int) (allowed9 : Int) (whole10 : Int) (at11 : Int) : Tr (Lap ((List Int × List Int) × List Int × Int × Int × Int × Int × Int) (Sum ((List Int × List Int) × List Int × Int × Int × Int) Int)) :=
  .bnd (measure_Ruler_Count_F r0) fun c_1 =>
  .br (decide (at11 ≤ c_1)) (
    .bnd (measure_Ruler_Shown_F r0 from2 at11) fun c_2 =>
    .br (decide (c_2 ≤ width3)) (
      .bnd (idx ss1 at11) fun x_3 =>
      .br (x_3 == 2) (
        .pure (.done (.inr at11))) (
        .bnd (idx ss1 at11) fun x_4 =>
        .br (x_4 == 1) (
          .bnd (measure_Ruler_Whole_F r0 at11) fun c_5 =>
          .br c_5 (
            .pure (.next (r0, ss1, from2, width3, at11, at11, IntKind.i64.wrap (at11 + 1)))) (
            .pure (.next (r0, ss1, from2, width3, at11, whole10, IntKind.i64.wrap (at11 + 1))))) (
          .bnd (measure_Ruler_Whole_F r0 at11) fun c_6 =>
          .br c_6 (
            .pure (.next (r0, ss1, from2, width3, allowed9, at11, IntKind.i64.wrap (at11 + 1)))) (
            .pure (.next (r0, ss1, from2, width3, allowed9, whole10, IntKind.i64.wrap (at11 + 1))))))) (
      .pure (.done (.inl (r0, ss1, from2, allowed9, whole10))))) (
    .pure (.done (.inl (r0, ss1, from2, allowed9, whole10))))
noncomputable def fill_end_L16 (r0 : List Int × List Int) (ss1 : List Int) (at12 : Int) : Tr (Lap ((List Int × List Int) × List Int × Int) Int) :=
  .bnd (measure_Ruler_Whole_F r0 at12) fun c_8 =>
  .br (!c_8) (
    .bnd (idx ss1 at12) fun x_9 =>
    .br (x_9 != 2) (
      .pure (.next (r0, ss1, IntKind.i64.wrap (at12 + 1)))) (
      .pure (.done at12))) (
    .pure (.done at12))
noncomputable def fill_end_T (r0 : List Int × List Int) (ss1 : List Int) (from2 : Int) (width3 : Int) : Tr Int :=
  .alt (loopW (fun s => (fill_end_L3 s.1 s.2.1 s.2.2.1 s.2.2.2.1 s.2.2.2.2.1 s.2.2.2.2.2.1 s.2.2.2.2.2.2).run) (r0, ss1, from2, width3, from2, from2, IntKind.i64.wrap (from2 + 1))) (fun l_7 =>
    .br (decide (l_7.2.2.2.1 > l_7.2.2.1)) (
      .pure l_7.2.2.2.1) (
      .br (decide (l_7.2.2.2.2 > l_7.2.2.1)) (
        .pure l_7.2.2.2.2) (
        .bnd (loopW (fun s => (fill_end_L16 s.1 s.2.1 s.2.2).run) (l_7.1, l_7.2.1, IntKind.i64.wrap (l_7.2.2.1 + 1))) fun l_10 =>
        .pure l_10))) (fun l_11 =>
    .pure l_11)
noncomputable def fill_end_F (r0 : List Int × List Int) (ss1 : List Int) (from2 : Int) (width3 : Int) : Option Int := (fill_end_T r0 ss1 from2 width3).run
def fill_end_L : List (Nat × LoopAnn) := [(3, { head := [.sv 0 false (.ptr (.st (.pair Te Te))), .sv 1 false Te, .sv 2 false Th, .sv 3 false Th, .sv 9 false Th, .sv 10 false Th, .sv 11 true Th], xid := 0, out := [.sv 0 false (.ptr (.st (.pair Te Te))), .sv 1 false Te, .sv 2 false Th, .sv 9 false Th, .sv 10 false Th], hasRet := true, res := [.sv 8 true Th] }), (16, { head := [.sv 0 false (.ptr (.st (.pair Te Te))), .sv 1 false Te, .sv 12 true Th], xid := 2, out := [.sv 12 true Th], hasRet := false, res := [] })]
noncomputable def fill_end_C : List (Nat × Callee) := [(45, .plain measure_Ruler_Count_fun), (75, .plain measure_Ruler_Shown_fun), (76, .plain measure_Ruler_Whole_fun)]
noncomputable def fill_end_fun : Fun := ⟨[.ptr (.st (.pair Te Te)), .sl Th, Th, Th], [.v Th], fun x => fill_end_F x.1 x.2.1 x.2.2.1 x.2.2.2.1⟩
theorem fill_end_ev (x : Tys.I [.ptr (.st (.pair Te Te)), .sl Th, Th, Th]) : evFun G0 (of_ fill_end_C) A0 (ol_ fill_end_L) Tryz.f46 [.ptr (.st (.pair Te Te)), .sl Th, Th, Th] [.v Th] x = fill_end_T x.1 x.2.1 x.2.2.1 x.2.2.2.1 := by kernel_rfl
theorem fill_end_ok : FunOk Tryz.prog 46 fill_end_fun := evFun_ok mixed ctx0 (pc measure_Ruler_Count_ok (pc measure_Ruler_Shown_ok (pc measure_Ruler_Whole_ok (no_calls)))) Tryz.func46 (by kernel_rfl) _ (fun x => congrArg Tr.run (fill_end_ev x)) (by kernel_rfl) (by kernel_rfl)
noncomputable def fill_Lines_L7 (r0 : List Int × List Int) (ss1 : List Int) (width2 : Int) (lines8 : List (Int × Int × Bool × Bool)) (from9 : Int) : Tr (Lap ((List Int × List Int) × List Int × Int × (List (Int × Int × Bool × Bool)) × Int) (List (Int × Int × Bool × Bool))) :=
  .bnd (measure_Ruler_Count_F r0) fun c_4 =>
  .br (decide (from9 < c_4)) (
    .bnd (fill_end_F r0 ss1 from9 width2) fun c_5 =>
    .bnd (idx ss1 c_5) fun x_6 =>
    .bnd (idx ss1 c_5) fun x_7 =>
    .bnd (app 5864062014805 lines8 ([(from9, c_5, x_6 == 2, x_7 == 0)])) fun r_8 =>
    .pure (.next (r0, ss1, width2, r_8, c_5))) (
    .pure (.done lines8))
noncomputable def fill_Lines_T (r0 : List Int × List Int) (ss1 : List Int) (width2 : Int) : Tr ((List (Int × Int × Bool × Bool)) × Option (Int × ByteArray × Int)) :=
  .br (decide (width2 < 1)) (
    .bnd (api_Wrap_F 2 (ByteArray.mk #[119, 105, 100, 116, 104]) width2) fun c_1 =>
    .pure ([], c_1)) (
    .bnd (measure_Ruler_Count_F r0) fun c_2 =>
    .br ((ss1.length : Int) != (IntKind.i64.wrap (c_2 + 1))) (
      .bnd (api_Wrap_F 6 (ByteArray.mk #[115, 116, 97, 116, 117, 115]) (ss1.length : Int)) fun c_3 =>
      .pure ([], c_3)) (
      .bnd (loopW (fun s => (fill_Lines_L7 s.1 s.2.1 s.2.2.1 s.2.2.2.1 s.2.2.2.2).run) (r0, ss1, width2, [], 0)) fun l_9 =>
      .pure (l_9, none)))
noncomputable def fill_Lines_F (r0 : List Int × List Int) (ss1 : List Int) (width2 : Int) : Option ((List (Int × Int × Bool × Bool)) × Option (Int × ByteArray × Int)) := (fill_Lines_T r0 ss1 width2).run
def fill_Lines_L : List (Nat × LoopAnn) := [(7, { head := [.sv 0 false (.ptr (.st (.pair Te Te))), .sv 1 false Te, .sv 2 false Th, .srow 8 1000008 46 true (.st (.pair Th (.pair Th (.pair .bool .bool)))), .sv 9 true Th], xid := 0, out := [.srow 8 1000008 46 true (.st (.pair Th (.pair Th (.pair .bool .bool))))], hasRet := false, res := [] })]
noncomputable def fill_Lines_C : List (Nat × Callee) := [(9, .plain api_Wrap_fun), (45, .plain measure_Ruler_Count_fun), (46, .plain fill_end_fun)]
noncomputable def fill_Lines_fun : Fun := ⟨[.ptr (.st (.pair Te Te)), .sl Th, Th], [.row 46 (.st (.pair Th (.pair Th (.pair .bool .bool)))), .v (.err 52 26)], fun x => fill_Lines_F x.1 x.2.1 x.2.2.1⟩
theorem fill_Lines_ev (x : Tys.I [.ptr (.st (.pair Te Te)), .sl Th, Th]) : evFun G0 (of_ fill_Lines_C) A0 (ol_ fill_Lines_L) Tryz.f24 [.ptr (.st (.pair Te Te)), .sl Th, Th] [.row 46 (.st (.pair Th (.pair Th (.pair .bool .bool)))), .v (.err 52 26)] x = fill_Lines_T x.1 x.2.1 x.2.2.1 := by kernel_rfl
theorem fill_Lines_ok : FunOk Tryz.prog 24 fill_Lines_fun := evFun_ok mixed ctx0 (pc api_Wrap_ok (pc measure_Ruler_Count_ok (pc fill_end_ok (no_calls)))) Tryz.func24 (by kernel_rfl) _ (fun x => congrArg Tr.run (fill_Lines_ev x)) (by kernel_rfl) (by kernel_rfl)
noncomputable def measure_Of_L4 (widths0 : List Int) (cs1 : List Int) (r5 : List Int × List Int) (sum6 : Int) (solid7 : Int) (t15 : Int) (t16 : Int) : Tr (Lap (List Int × List Int × (List Int × List Int) × Int × Int × Int × Int) (List Int × List Int)) :=
  .br (decide (t16 < t15)) (
    .bnd (idx widths0 t16) fun x_1 =>
    .bnd (idx cs1 t16) fun x_2 =>
    .br (x_2 != 9) (
      .bnd (app 17592186044416 r5.1 ([IntKind.i64.wrap (sum6 + x_1)])) fun r_3 =>
      .bnd (app 17592186044416 r5.2 ([IntKind.i64.wrap (t16 + 1)])) fun r_4 =>
      .pure (.next (widths0, cs1, (r_3, r_4), IntKind.i64.wrap (sum6 + x_1), IntKind.i64.wrap (t16 + 1), t15, IntKind.i64.wrap (t16 + 1)))) (
      .bnd (app 17592186044416 r5.1 ([IntKind.i64.wrap (sum6 + x_1)])) fun r_5 =>
      .bnd (app 17592186044416 r5.2 ([solid7])) fun r_6 =>
      .pure (.next (widths0, cs1, (r_5, r_6), IntKind.i64.wrap (sum6 + x_1), solid7, t15, IntKind.i64.wrap (t16 + 1))))) (
    .pure (.done (r5.1, r5.2)))
noncomputable def measure_Of_T (widths0 : List Int) (cs1 : List Int) : Tr (List Int × List Int) :=
  .bnd (loopW (fun s => (measure_Of_L4 s.1 s.2.1 s.2.2.1 s.2.2.2.1 s.2.2.2.2.1 s.2.2.2.2.2.1 s.2.2.2.2.2.2).run) (widths0, cs1, ([], []), 0, 0, if (cs1.length : Int) < (widths0.length : Int) then (cs1.length : Int) else (widths0.length : Int), 0)) fun l_7 =>
  .pure (l_7.1, l_7.2)
noncomputable def measure_Of_F (widths0 : List Int) (cs1 : List Int) : Option (List Int × List Int) := (measure_Of_T widths0 cs1).run
def measure_Of_L : List (Nat × LoopAnn) := [(4, { head := [.sv 0 false Te, .sv 1 false Tf, .sboxh 5 1000005 123 (.st (.pair Te Te)) [(0, 3), (1, 3)] [], .sv 6 true Th, .sv 7 true Th, .sv 15 true Th, .sv 16 true Th], xid := 0, out := [.sboxh 5 1000005 123 (.st (.pair Te Te)) [(0, 3), (1, 3)] []], hasRet := false, res := [] })]
noncomputable def measure_Of_C : List (Nat × Callee) := []
noncomputable def measure_Of_fun : Fun := ⟨[.sl Th, .sl Ti], [.v (.ptr (.st (.pair Te Te)))], fun x => measure_Of_F x.1 x.2.1⟩
theorem measure_Of_ev (x : Tys.I [.sl Th, .sl Ti]) : evFunP G0 (of_ measure_Of_C) ⟨[], [], [], [], [], [(9, [(0, 3), (1, 3)])]⟩ (ol_ measure_Of_L) Tryz.f25 [.sl Th, .sl Ti] (.st (.pair Te Te)) [(0, 3), (1, 3)] x = measure_Of_T x.1 x.2.1 := by kernel_rfl
theorem measure_Of_ok : FunOk Tryz.prog 25 measure_Of_fun := evFunP_ok mixed ctx0 (no_calls) Tryz.func25 (by kernel_rfl) _ (fun x => congrArg Tr.run (measure_Of_ev x)) (by kernel_rfl) (by kernel_rfl)
noncomputable def layout_bases_L6 (t1 : List Int × List Int × (List (Int × Int × Int)) × List Int) (all3 : List Int) (k4 : Int) (p5 : Int × Int × Int) (i6 : Int) (t12 : List (Int × Int × Int)) (t13 : Int) (t14 : Int) : Tr (Lap ((List Int × List Int × (List (Int × Int × Int)) × List Int) × List Int × Int × (Int × Int × Int) × Int × (List (Int × Int × Int)) × Int × Int) ((List Int × List Int × (List (Int × Int × Int)) × List Int) × List Int × (List (Int × Int × Int)) × Int × Int)) :=
  .bnd (idx ([p5]) 0) fun x_4 =>
  .br (decide (i6 < x_4.2.1)) (
    .bnd (idx ([t1]) 0) fun x_5 =>
    .bnd (idx x_5.2.2.2 k4) fun x_6 =>
    .bnd (idx all3 i6) fun x_7 =>
    .pure (.next (t1, all3.set (Int.toNat i6) x_6, k4, p5, IntKind.i64.wrap (i6 + 1), t12, t13, t14))) (
    .pure (.done (t1, all3, t12, t13, t14)))
noncomputable def layout_bases_L3 (t1 : List Int × List Int × (List (Int × Int × Int)) × List Int) (all3 : List Int) (t12 : List (Int × Int × Int)) (t13 : Int) (t14 : Int) : Tr (Lap ((List Int × List Int × (List (Int × Int × Int)) × List Int) × List Int × (List (Int × Int × Int)) × Int × Int) (List Int)) :=
  .br (decide (t14 < t13)) (
    .bnd (idx t12 t14) fun x_2 =>
    .bnd (idx ([x_2]) 0) fun x_3 =>
    .bnd (loopW (fun s => (layout_bases_L6 s.1 s.2.1 s.2.2.1 s.2.2.2.1 s.2.2.2.2.1 s.2.2.2.2.2.1 s.2.2.2.2.2.2.1 s.2.2.2.2.2.2.2).run) (t1, all3, t14, x_2, x_3.1, t12, t13, t14)) fun l_8 =>
    .pure (.next (l_8.1, l_8.2.1, l_8.2.2.1, l_8.2.2.2.1, IntKind.i64.wrap (l_8.2.2.2.2 + 1)))) (
    .pure (.done all3))
noncomputable def layout_bases_T (t0 : List Int × List Int × (List (Int × Int × Int)) × List Int) : Tr (List Int) :=
  .bnd (mk 17592186044416 0 (t0.2.1.length : Int)) fun r_1 =>
  .bnd (loopW (fun s => (layout_bases_L3 s.1 s.2.1 s.2.2.1 s.2.2.2.1 s.2.2.2.2).run) (t0, r_1, t0.2.2.1, (t0.2.2.1.length : Int), 0)) fun l_9 =>
  .pure l_9
noncomputable def layout_bases_F (t0 : List Int × List Int × (List (Int × Int × Int)) × List Int) : Option (List Int) := (layout_bases_T t0).run
def layout_bases_L : List (Nat × LoopAnn) := [(6, { head := [.sbox 1 1000001 68 false (.st (.pair Tf (.pair Te (.pair (.sl Tc) Te)))), .srow 3 1000003 3 true Th, .sv 4 true Th, .sbox 5 1000005 108 true Tc, .sv 6 true Th, .sv 12 false (.sl Tc), .sv 13 true Th, .sv 14 true Th], xid := 2, out := [.sbox 1 1000001 68 false (.st (.pair Tf (.pair Te (.pair (.sl Tc) Te)))), .srow 3 1000003 3 true Th, .sv 12 false (.sl Tc), .sv 13 true Th, .sv 14 true Th], hasRet := false, res := [] }), (3, { head := [.sbox 1 1000001 68 false (.st (.pair Tf (.pair Te (.pair (.sl Tc) Te)))), .srow 3 1000003 3 true Th, .sv 12 false (.sl Tc), .sv 13 true Th, .sv 14 true Th], xid := 0, out := [.srow 3 1000003 3 true Th], hasRet := false, res := [] })]
noncomputable def layout_bases_C : List (Nat × Callee) := []
noncomputable def layout_bases_fun : Fun := ⟨[.st (.pair Tf (.pair Te (.pair (.sl Tc) Te)))], [.row 3 Th], fun x => layout_bases_F x.1⟩
theorem layout_bases_ev (x : Tys.I [.st (.pair Tf (.pair Te (.pair (.sl Tc) Te)))]) : evFun G0 (of_ layout_bases_C) A0 (ol_ layout_bases_L) Tryz.f27 [.st (.pair Tf (.pair Te (.pair (.sl Tc) Te)))] [.row 3 Th] x = layout_bases_T x.1 := by kernel_rfl
theorem layout_bases_ok : FunOk Tryz.prog 27 layout_bases_fun := evFun_ok mixed ctx0 (no_calls) Tryz.func27 (by kernel_rfl) _ (fun x => congrArg Tr.run (layout_bases_ev x)) (by kernel_rfl) (by kernel_rfl)
noncomputable def bidic_Taken_T (c0 : Int) : Tr Bool :=
  .bnd (bidic_Embedding_F c0) fun c_1 =>
  .br c_1 (
    .pure true) (
    .br (c0 == 18) (
      .pure true) (
      .pure (c0 == 9)))
noncomputable def bidic_Taken_F (c0 : Int) : Option Bool := (bidic_Taken_T c0).run
def bidic_Taken_L : List (Nat × LoopAnn) := []
noncomputable def bidic_Taken_C : List (Nat × Callee) := [(92, .plain bidic_Embedding_fun)]
noncomputable def bidic_Taken_fun : Fun := ⟨[Ti], [.v .bool], fun x => bidic_Taken_F x.1⟩
theorem bidic_Taken_ev (x : Tys.I [Ti]) : evFun G0 (of_ bidic_Taken_C) A0 (ol_ bidic_Taken_L) Tryz.f116 [Ti] [.v .bool] x = bidic_Taken_T x.1 := by kernel_rfl
theorem bidic_Taken_ok : FunOk Tryz.prog 116 bidic_Taken_fun := evFun_ok mixed ctx0 (pc bidic_Embedding_ok (no_calls)) Tryz.func116 (by kernel_rfl) _ (fun x => congrArg Tr.run (bidic_Taken_ev x)) (by kernel_rfl) (by kernel_rfl)
noncomputable def relevel_blank_T (c0 : Int) : Tr Bool :=
  .br (c0 == 12) (
    .pure true) (
    .br (c0 == 22) (
      .pure true) (
      .bnd (bidic_Isolate_F c0) fun c_1 =>
      .br c_1 (
        .pure true) (
        .bnd (bidic_Taken_F c0) fun c_2 =>
        .pure c_2)))
noncomputable def relevel_blank_F (c0 : Int) : Option Bool := (relevel_blank_T c0).run
def relevel_blank_L : List (Nat × LoopAnn) := []
noncomputable def relevel_blank_C : List (Nat × Callee) := [(87, .plain bidic_Isolate_fun), (116, .plain bidic_Taken_fun)]
noncomputable def relevel_blank_fun : Fun := ⟨[Ti], [.v .bool], fun x => relevel_blank_F x.1⟩
theorem relevel_blank_ev (x : Tys.I [Ti]) : evFun G0 (of_ relevel_blank_C) A0 (ol_ relevel_blank_L) Tryz.f79 [Ti] [.v .bool] x = relevel_blank_T x.1 := by kernel_rfl
theorem relevel_blank_ok : FunOk Tryz.prog 79 relevel_blank_fun := evFun_ok mixed ctx0 (pc bidic_Isolate_ok (pc bidic_Taken_ok (no_calls))) Tryz.func79 (by kernel_rfl) _ (fun x => congrArg Tr.run (relevel_blank_ev x)) (by kernel_rfl) (by kernel_rfl)
noncomputable def relevel_Of_L6 (cs1 : List Int) (bases2 : List Int) (out7 : List Int) (trailing8 : Bool) (i9 : Int) : Tr (Lap (List Int × List Int × List Int × Bool × Int) (List Int)) :=
  .br (decide (i9 ≥ 0)) (
    .bnd (idx cs1 i9) fun x_2 =>
    .br (x_2 == 11) (
      .bnd (idx out7 i9) fun x_3 =>
      .br (x_3 != (-1)) (
        .bnd (idx bases2 i9) fun x_4 =>
        .bnd (idx out7 i9) fun x_5 =>
        .pure (.next (cs1, bases2, out7.set (Int.toNat i9) x_4, true, IntKind.i64.wrap (i9 - 1)))) (
        .pure (.next (cs1, bases2, out7, true, IntKind.i64.wrap (i9 - 1))))) (
      .bnd (idx cs1 i9) fun x_6 =>
      .br (x_6 == 10) (
        .bnd (idx out7 i9) fun x_7 =>
        .br (x_7 != (-1)) (
          .bnd (idx bases2 i9) fun x_8 =>
          .bnd (idx out7 i9) fun x_9 =>
          .pure (.next (cs1, bases2, out7.set (Int.toNat i9) x_8, true, IntKind.i64.wrap (i9 - 1)))) (
          .pure (.next (cs1, bases2, out7, true, IntKind.i64.wrap (i9 - 1))))) (
        .br trailing8 (
          .bnd (idx cs1 i9) fun x_10 =>
          .bnd (relevel_blank_F x_10) fun c_11 =>
          .br c_11 (
            .bnd (idx out7 i9) fun x_12 =>
            .br (x_12 != (-1)) (
              .bnd (idx bases2 i9) fun x_13 =>
              .bnd (idx out7 i9) fun x_14 =>
              .pure (.next (cs1, bases2, out7.set (Int.toNat i9) x_13, c_11, IntKind.i64.wrap (i9 - 1)))) (
              .pure (.next (cs1, bases2, out7, c_11, IntKind.i64.wrap (i9 - 1))))) (
            .pure (.next (cs1, bases2, out7, c_11, IntKind.i64.wrap (i9 - 1))))) (
          .pure (.next (cs1, bases2, out7, false, IntKind.i64.wrap (i9 - 1))))))) (
    .pure (.done out7))
noncomputable def relevel_Of_T (levels0 : List Int) (cs1 : List Int) (bases2 : List Int) : Tr (List Int) :=
  .bnd (slices_Clone___int_int__F levels0) fun c_1 =>
  .br ((cs1.length : Int) != (levels0.length : Int)) (
    .pure c_1) (
    .br ((bases2.length : Int) != (levels0.length : Int)) (
      .pure c_1) (
      .bnd (loopW (fun s => (relevel_Of_L6 s.1 s.2.1 s.2.2.1 s.2.2.2.1 s.2.2.2.2).run) (cs1, bases2, c_1, true, IntKind.i64.wrap ((c_1.length : Int) - 1))) fun l_15 =>
      .pure l_15))
noncomputable def relevel_Of_F (levels0 : List Int) (cs1 : List Int) (bases2 : List Int) : Option (List Int) := (relevel_Of_T levels0 cs1 bases2).run
def relevel_Of_L : List (Nat × LoopAnn) := [(6, { head := [.sv 1 false Tf, .sv 2 false Te, .srow 7 1000007 3 true Th, .sv 8 true .bool, .sv 9 true Th], xid := 0, out := [.srow 7 1000007 3 true Th], hasRet := false, res := [] })]
noncomputable def relevel_Of_C : List (Nat × Callee) := [(78, .plain slices_Clone___int_int__fun), (79, .plain relevel_blank_fun)]
noncomputable def relevel_Of_fun : Fun := ⟨[.sl Th, .sl Ti, .sl Th], [.row 3 Th], fun x => relevel_Of_F x.1 x.2.1 x.2.2.1⟩
theorem relevel_Of_ev (x : Tys.I [.sl Th, .sl Ti, .sl Th]) : evFun G0 (of_ relevel_Of_C) A0 (ol_ relevel_Of_L) Tryz.f49 [.sl Th, .sl Ti, .sl Th] [.row 3 Th] x = relevel_Of_T x.1 x.2.1 x.2.2.1 := by kernel_rfl
theorem relevel_Of_ok : FunOk Tryz.prog 49 relevel_Of_fun := evFun_ok mixed ctx0 (pc slices_Clone___int_int__ok (pc relevel_blank_ok (no_calls))) Tryz.func49 (by kernel_rfl) _ (fun x => congrArg Tr.run (relevel_Of_ev x)) (by kernel_rfl) (by kernel_rfl)
noncomputable def marks_Fix_1_T (i0 : Int) (t1 : List Int) (t2 : List Int) (t3 : List Int) : Tr Bool :=
  .bnd (idx t1 i0) fun x_1 =>
  .br (decide (x_1 > 0)) (
    .bnd (idx t1 i0) fun x_2 =>
    .br ((x_2.tmod 2) == 1) (
      .bnd (idx t2 i0) fun x_3 =>
      .br (x_3 == 8) (
        .bnd (idx t3 i0) fun x_4 =>
        .pure (x_4 == 0)) (
        .pure false)) (
      .pure false)) (
    .pure false)
noncomputable def marks_Fix_1_F (i0 : Int) (t1 : List Int) (t2 : List Int) (t3 : List Int) : Option Bool := (marks_Fix_1_T i0 t1 t2 t3).run
def marks_Fix_1_L : List (Nat × LoopAnn) := []
noncomputable def marks_Fix_1_C : List (Nat × Callee) := []
noncomputable def marks_Fix_1_fun : Fun := ⟨[Th, .ptr Te, .ptr Tf, .ptr Te], [.v .bool], fun x => marks_Fix_1_F x.1 x.2.1 x.2.2.1 x.2.2.2.1⟩
theorem marks_Fix_1_ev (x : Tys.I [Th, .ptr Te, .ptr Tf, .ptr Te]) : evFun G0 (of_ marks_Fix_1_C) A0 (ol_ marks_Fix_1_L) Tryz.f80 [Th, .ptr Te, .ptr Tf, .ptr Te] [.v .bool] x = marks_Fix_1_T x.1 x.2.1 x.2.2.1 x.2.2.2.1 := by kernel_rfl
theorem marks_Fix_1_ok : FunOk Tryz.prog 80 marks_Fix_1_fun := evFun_ok mixed ctx0 (no_calls) Tryz.func80 (by kernel_rfl) _ (fun x => congrArg Tr.run (marks_Fix_1_ev x)) (by kernel_rfl) (by kernel_rfl)
noncomputable def slices_Reverse___int_int__L1 (s0 : List Int) (i2 : Int) (j3 : Int) : Tr (Lap (List Int × Int × Int) (List Int)) :=
  .br (decide (i2 < j3)) (
    .bnd (idx s0 j3) fun _ =>
    .bnd (idx s0 j3) fun x_2 =>
    .bnd (idx s0 i2) fun _ =>
    .bnd (idx s0 i2) fun x_4 =>
    .bnd (idx s0 i2) fun _ =>
    .bnd (idx s0 i2) fun _ =>
    .bnd (idx (s0.set (Int.toNat i2) x_2) j3) fun _ =>
    .bnd (idx (s0.set (Int.toNat i2) x_2) j3) fun _ =>
    .pure (.next ((s0.set (Int.toNat i2) x_2).set (Int.toNat j3) x_4, IntKind.i64.wrap (i2 + 1), IntKind.i64.wrap (j3 - 1)))) (
    .pure (.done s0))
noncomputable def slices_Reverse___int_int__T (s0 : List Int) : Tr (List Int × Unit) :=
  .bnd (loopW (fun s => (slices_Reverse___int_int__L1 s.1 s.2.1 s.2.2).run) (s0, 0, IntKind.i64.wrap ((s0.length : Int) - 1))) fun l_7 =>
  .pure (l_7, ())
noncomputable def slices_Reverse___int_int__F (s0 : List Int) : Option (List Int × Unit) := (slices_Reverse___int_int__T s0).run
def slices_Reverse___int_int__L : List (Nat × LoopAnn) := [(1, { head := [.slrow 0 3 Th, .sv 2 true Th, .sv 3 true Th], xid := 0, out := [.slrow 0 3 Th], hasRet := false, res := [] })]
noncomputable def slices_Reverse___int_int__C : List (Nat × Callee) := []
noncomputable def slices_Reverse___int_int__fun : LFun := ⟨3, Th, [], [], fun s _ => slices_Reverse___int_int__F s⟩
theorem slices_Reverse___int_int__ev (s : List Int) (x : Tys.I []) : evFunL G0 (of_ slices_Reverse___int_int__C) A0 (ol_ slices_Reverse___int_int__L) Tryz.f81 3 Th [] [] s x = slices_Reverse___int_int__T s := by kernel_rfl
theorem slices_Reverse___int_int__ok : LentOk Tryz.prog 81 slices_Reverse___int_int__fun := evFunL_ok mixed ctx0 (no_calls) Tryz.func81 (by kernel_rfl) rfl _ (fun s x => congrArg Tr.run (slices_Reverse___int_int__ev s x)) (by kernel_rfl)
noncomputable def marks_Fix_L4 (levels5 : List Int) (cs6 : List Int) (widths7 : List Int) (out9 : List Int) (n10 : Int) (t25 : List Int) (t26 : Int) (t27 : Int) : Tr (Lap (List Int × List Int × List Int × List Int × Int × List Int × Int × Int) (Sum (List Int × List Int × List Int × List Int) (List Int))) :=
  .br (decide (t27 < t26)) (
    .bnd (idx t25 t27) fun x_2 =>
    .br (decide (x_2 < 0)) (
      .pure (.done (.inr out9))) (
      .br (decide (x_2 ≥ n10)) (
        .pure (.done (.inr out9))) (
        .pure (.next (levels5, cs6, widths7, out9, n10, t25, t26, IntKind.i64.wrap (t27 + 1)))))) (
    .pure (.done (.inl (levels5, cs6, widths7, out9))))
noncomputable def marks_Fix_L13 (levels5 : List Int) (out9 : List Int) (mark13 : List Int × List Int × List Int) (from14 : Int) (to15 : Int) : Tr (Lap (List Int × List Int × (List Int × List Int × List Int) × Int × Int) (List Int × List Int × (List Int × List Int × List Int) × Int × Int)) :=
  .br (decide (to15 < (out9.length : Int))) (
    .bnd (idx out9 to15) fun x_4 =>
    .bnd (marks_Fix_1_F x_4 mark13.1 mark13.2.1 mark13.2.2) fun c_5 =>
    .br c_5 (
      .pure (.next (levels5, out9, mark13, from14, IntKind.i64.wrap (to15 + 1)))) (
      .pure (.done (levels5, out9, mark13, from14, to15)))) (
    .pure (.done (levels5, out9, mark13, from14, to15)))
noncomputable def marks_Fix_L11 (levels5 : List Int) (out9 : List Int) (mark13 : List Int × List Int × List Int) (from14 : Int) : Tr (Lap (List Int × List Int × (List Int × List Int × List Int) × Int) (List Int)) :=
  .br (decide (from14 < (out9.length : Int))) (
    .bnd (loopW (fun s => (marks_Fix_L13 s.1 s.2.1 s.2.2.1 s.2.2.2.1 s.2.2.2.2).run) (levels5, out9, mark13, from14, from14)) fun l_6 =>
    .br (decide (l_6.2.2.2.2 < (l_6.2.1.length : Int))) (
      .bnd (idx l_6.2.1 l_6.2.2.2.2) fun x_7 =>
      .bnd (idx l_6.1 x_7) fun x_8 =>
      .bnd (idx l_6.2.1 l_6.2.2.2.1) fun x_9 =>
      .bnd (idx l_6.1 x_9) fun x_10 =>
      .br (x_8 == x_10) (
        .bnd (cut l_6.2.1 l_6.2.2.2.1 (IntKind.i64.wrap (l_6.2.2.2.2 + 1))) fun r_11 =>
        .bnd (slices_Reverse___int_int__F ((l_6.2.1.drop ((l_6.2.2.2.1).toNat)).take r_11.length)) fun c_12 =>
        .pure (.next (l_6.1, splice' l_6.2.1 ((l_6.2.2.2.1).toNat) r_11.length c_12.1, l_6.2.2.1, IntKind.i64.wrap (l_6.2.2.2.2 + 1)))) (
        .pure (.next (l_6.1, l_6.2.1, l_6.2.2.1, IntKind.i64.wrap (l_6.2.2.2.2 + 1))))) (
      .pure (.next (l_6.1, l_6.2.1, l_6.2.2.1, IntKind.i64.wrap (l_6.2.2.2.2 + 1))))) (
    .pure (.done out9))
noncomputable def marks_Fix_T (visual0 : List Int) (levels1 : List Int) (cs2 : List Int) (widths3 : List Int) : Tr (List Int) :=
  .bnd (slices_Clone___int_int__F visual0) fun c_1 =>
  .alt (loopW (fun s => (marks_Fix_L4 s.1 s.2.1 s.2.2.1 s.2.2.2.1 s.2.2.2.2.1 s.2.2.2.2.2.1 s.2.2.2.2.2.2.1 s.2.2.2.2.2.2.2).run) (levels1, cs2, widths3, c_1, if (widths3.length : Int) < (if (cs2.length : Int) < (levels1.length : Int) then (cs2.length : Int) else (levels1.length : Int)) then (widths3.length : Int) else (if (cs2.length : Int) < (levels1.length : Int) then (cs2.length : Int) else (levels1.length : Int)), visual0, (visual0.length : Int), 0)) (fun l_3 =>
    .bnd (loopW (fun s => (marks_Fix_L11 s.1 s.2.1 s.2.2.1 s.2.2.2).run) (l_3.1, l_3.2.2.2, (l_3.1, l_3.2.1, l_3.2.2.1), 0)) fun l_13 =>
    .pure l_13) (fun l_14 =>
    .pure l_14)
noncomputable def marks_Fix_F (visual0 : List Int) (levels1 : List Int) (cs2 : List Int) (widths3 : List Int) : Option (List Int) := (marks_Fix_T visual0 levels1 cs2 widths3).run
def marks_Fix_L : List (Nat × LoopAnn) := [(4, { head := [.sbox 5 1000005 34 false Te, .sbox 6 1000006 65 false Tf, .sbox 7 1000007 34 false Te, .srow 9 1000009 3 true Th, .sv 10 true Th, .sv 25 false Te, .sv 26 true Th, .sv 27 true Th], xid := 0, out := [.sbox 5 1000005 34 false Te, .sbox 6 1000006 65 false Tf, .sbox 7 1000007 34 false Te, .srow 9 1000009 3 true Th], hasRet := true, res := [.srow 8 1000008 3 true Th] }), (13, { head := [.sv 5 false (.ptr Te), .srow 9 1000009 3 true Th, .sv 13 false (.fn 80 (.pair (.ptr Te) (.pair (.ptr Tf) (.ptr Te)))), .sv 14 true Th, .sv 15 true Th], xid := 4, out := [.sv 5 false (.ptr Te), .srow 9 1000009 3 true Th, .sv 13 false (.fn 80 (.pair (.ptr Te) (.pair (.ptr Tf) (.ptr Te)))), .sv 14 true Th, .sv 15 true Th], hasRet := false, res := [] }), (11, { head := [.sv 5 false (.ptr Te), .srow 9 1000009 3 true Th, .sv 13 false (.fn 80 (.pair (.ptr Te) (.pair (.ptr Tf) (.ptr Te)))), .sv 14 true Th], xid := 2, out := [.srow 9 1000009 3 true Th], hasRet := false, res := [] })]
noncomputable def marks_Fix_C : List (Nat × Callee) := [(78, .plain slices_Clone___int_int__fun), (80, .plain marks_Fix_1_fun), (81, .lent slices_Reverse___int_int__fun)]
noncomputable def marks_Fix_fun : Fun := ⟨[.sl Th, .sl Th, .sl Ti, .sl Th], [.row 3 Th], fun x => marks_Fix_F x.1 x.2.1 x.2.2.1 x.2.2.2.1⟩
theorem marks_Fix_ev (x : Tys.I [.sl Th, .sl Th, .sl Ti, .sl Th]) : evFun G0 (of_ marks_Fix_C) ⟨[], [], [81], [], [], []⟩ (ol_ marks_Fix_L) Tryz.f50 [.sl Th, .sl Th, .sl Ti, .sl Th] [.row 3 Th] x = marks_Fix_T x.1 x.2.1 x.2.2.1 x.2.2.2.1 := by kernel_rfl
theorem marks_Fix_ok : FunOk Tryz.prog 50 marks_Fix_fun := evFun_ok mixed ctx0 (pc slices_Clone___int_int__ok (pc marks_Fix_1_ok (cons_calls (fb := .lent slices_Reverse___int_int__fun) slices_Reverse___int_int__ok (fun h => by rfl) (no_calls)))) Tryz.func50 (by kernel_rfl) _ (fun x => congrArg Tr.run (marks_Fix_ev x)) (by kernel_rfl) (by kernel_rfl)
noncomputable def order_reverse_L3 (visual0 : List Int) (levels1 : List Int) (level2 : Int) (from6 : Int) (to7 : Int) : Tr (Lap (List Int × List Int × Int × Int × Int) (List Int × List Int × Int × Int × Int)) :=
  .br (decide (to7 < (visual0.length : Int))) (
    .bnd (idx visual0 to7) fun _ =>
    .bnd (idx visual0 to7) fun x_2 =>
    .bnd (idx levels1 x_2) fun x_3 =>
    .br (decide (x_3 ≥ level2)) (
      .pure (.next (visual0, levels1, level2, from6, IntKind.i64.wrap (to7 + 1)))) (
      .pure (.done (visual0, levels1, level2, from6, to7)))) (
    .pure (.done (visual0, levels1, level2, from6, to7)))
noncomputable def order_reverse_L1 (visual0 : List Int) (levels1 : List Int) (level2 : Int) (from6 : Int) : Tr (Lap (List Int × List Int × Int × Int) (List Int)) :=
  .br (decide (from6 < (visual0.length : Int))) (
    .bnd (loopW (fun s => (order_reverse_L3 s.1 s.2.1 s.2.2.1 s.2.2.2.1 s.2.2.2.2).run) (visual0, levels1, level2, from6, from6)) fun l_4 =>
    .bnd (cut l_4.1 l_4.2.2.2.1 l_4.2.2.2.2) fun r_5 =>
    .bnd (slices_Reverse___int_int__F ((l_4.1.drop ((l_4.2.2.2.1).toNat)).take r_5.length)) fun c_6 =>
    .pure (.next (splice' l_4.1 ((l_4.2.2.2.1).toNat) r_5.length c_6.1, l_4.2.1, l_4.2.2.1, IntKind.i64.wrap (l_4.2.2.2.2 + 1)))) (
    .pure (.done visual0))
noncomputable def order_reverse_T (visual0 : List Int) (levels1 : List Int) (level2 : Int) : Tr (List Int × Unit) :=
  .bnd (loopW (fun s => (order_reverse_L1 s.1 s.2.1 s.2.2.1 s.2.2.2).run) (visual0, levels1, level2, 0)) fun l_7 =>
  .pure (l_7, ())
noncomputable def order_reverse_F (visual0 : List Int) (levels1 : List Int) (level2 : Int) : Option (List Int × Unit) := (order_reverse_T visual0 levels1 level2).run
def order_reverse_L : List (Nat × LoopAnn) := [(3, { head := [.slrow 0 3 Th, .sv 1 false Te, .sv 2 false Th, .sv 6 true Th, .sv 7 true Th], xid := 2, out := [.slrow 0 3 Th, .sv 1 false Te, .sv 2 false Th, .sv 6 true Th, .sv 7 true Th], hasRet := false, res := [] }), (1, { head := [.slrow 0 3 Th, .sv 1 false Te, .sv 2 false Th, .sv 6 true Th], xid := 0, out := [.slrow 0 3 Th], hasRet := false, res := [] })]
noncomputable def order_reverse_C : List (Nat × Callee) := [(81, .lent slices_Reverse___int_int__fun)]
noncomputable def order_reverse_fun : LFun := ⟨3, Th, [.sl Th, Th], [], fun s x => order_reverse_F s x.1 x.2.1⟩
theorem order_reverse_ev (s : List Int) (x : Tys.I [.sl Th, Th]) : evFunL G0 (of_ order_reverse_C) ⟨[], [], [81], [], [], []⟩ (ol_ order_reverse_L) Tryz.f82 3 Th [.sl Th, Th] [] s x = order_reverse_T s x.1 x.2.1 := by kernel_rfl
theorem order_reverse_ok : LentOk Tryz.prog 82 order_reverse_fun := evFunL_ok mixed ctx0 (cons_calls (fb := .lent slices_Reverse___int_int__fun) slices_Reverse___int_int__ok (fun h => by rfl) (no_calls)) Tryz.func82 (by kernel_rfl) rfl _ (fun s x => congrArg Tr.run (order_reverse_ev s x)) (by kernel_rfl)
noncomputable def order_Visual_L4 (levels0 : List Int) (visual3 : List Int) (top4 : Int) (t8 : List Int) (t9 : Int) (t10 : Int) : Tr (Lap (List Int × List Int × Int × List Int × Int × Int) (List Int × List Int × Int)) :=
  .br (decide (t10 < t9)) (
    .bnd (idx t8 t10) fun x_1 =>
    .br (x_1 != (-1)) (
      .bnd (app 17592186044416 visual3 ([t10])) fun r_2 =>
      .pure (.next (levels0, r_2, if (if 126 < x_1 then 126 else x_1) > top4 then (if 126 < x_1 then 126 else x_1) else top4, t8, t9, IntKind.i64.wrap (t10 + 1)))) (
      .pure (.next (levels0, visual3, top4, t8, t9, IntKind.i64.wrap (t10 + 1))))) (
    .pure (.done (levels0, visual3, top4)))
noncomputable def order_Visual_L11 (levels0 : List Int) (visual3 : List Int) (level7 : Int) : Tr (Lap (List Int × List Int × Int) (List Int)) :=
  .br (decide (level7 > 0)) (
    .bnd (order_reverse_F visual3 levels0 level7) fun c_4 =>
    .pure (.next (levels0, c_4.1, IntKind.i64.wrap (level7 - 1)))) (
    .pure (.done visual3))
noncomputable def order_Visual_T (levels0 : List Int) : Tr (List Int) :=
  .bnd (loopW (fun s => (order_Visual_L4 s.1 s.2.1 s.2.2.1 s.2.2.2.1 s.2.2.2.2.1 s.2.2.2.2.2).run) (levels0, [], 0, levels0, (levels0.length : Int), 0)) fun l_3 =>
  .bnd (loopW (fun s => (order_Visual_L11 s.1 s.2.1 s.2.2).run) (l_3.1, l_3.2.1, l_3.2.2)) fun l_5 =>
  .pure l_5
noncomputable def order_Visual_F (levels0 : List Int) : Option (List Int) := (order_Visual_T levels0).run
def order_Visual_L : List (Nat × LoopAnn) := [(4, { head := [.sv 0 false Te, .srow 3 1000003 3 true Th, .sv 4 true Th, .sv 8 false Te, .sv 9 true Th, .sv 10 true Th], xid := 0, out := [.sv 0 false Te, .srow 3 1000003 3 true Th, .sv 4 true Th], hasRet := false, res := [] }), (11, { head := [.sv 0 false Te, .srow 3 1000003 3 true Th, .sv 7 true Th], xid := 2, out := [.srow 3 1000003 3 true Th], hasRet := false, res := [] })]
noncomputable def order_Visual_C : List (Nat × Callee) := [(82, .lent order_reverse_fun)]
noncomputable def order_Visual_fun : Fun := ⟨[.sl Th], [.row 3 Th], fun x => order_Visual_F x.1⟩
theorem order_Visual_ev (x : Tys.I [.sl Th]) : evFun G0 (of_ order_Visual_C) ⟨[], [], [82], [], [], []⟩ (ol_ order_Visual_L) Tryz.f51 [.sl Th] [.row 3 Th] x = order_Visual_T x.1 := by kernel_rfl
theorem order_Visual_ok : FunOk Tryz.prog 51 order_Visual_fun := evFun_ok mixed ctx0 (cons_calls (fb := .lent order_reverse_fun) order_reverse_ok (fun h => by rfl) (no_calls)) Tryz.func51 (by kernel_rfl) _ (fun x => congrArg Tr.run (order_Visual_ev x)) (by kernel_rfl) (by kernel_rfl)
noncomputable def order_Back_L3 (back6 : List Int) (t13 : List Int) (t14 : Int) (t15 : Int) : Tr (Lap (List Int × List Int × Int × Int) (Sum (List Int) Bool)) :=
  .br (decide (t15 < t14)) (
    .bnd (idx t13 t15) fun x_2 =>
    .br (decide (x_2 < 0)) (
      .pure (.done (.inr false))) (
      .br (decide (x_2 ≥ (back6.length : Int))) (
        .pure (.done (.inr false))) (
        .bnd (idx back6 x_2) fun x_3 =>
        .br (x_3 != (-1)) (
          .pure (.done (.inr false))) (
          .bnd (idx back6 x_2) fun x_4 =>
          .pure (.next (back6.set (Int.toNat x_2) t15, t13, t14, IntKind.i64.wrap (t15 + 1))))))) (
    .pure (.done (.inl back6)))
noncomputable def order_Back_T (visual0 : List Int) (levels1 : List Int) : Tr (List Int × Bool) :=
  .bnd (slices_Repeat___int_int__F ([(-1)]) (levels1.length : Int)) fun c_1 =>
  .alt (loopW (fun s => (order_Back_L3 s.1 s.2.1 s.2.2.1 s.2.2.2).run) (c_1, visual0, (visual0.length : Int), 0)) (fun l_5 =>
    .pure (l_5, true)) (fun l_6 =>
    .pure ([], l_6))
noncomputable def order_Back_F (visual0 : List Int) (levels1 : List Int) : Option (List Int × Bool) := (order_Back_T visual0 levels1).run
def order_Back_L : List (Nat × LoopAnn) := [(3, { head := [.srow 6 1000006 3 true Th, .sv 13 false Te, .sv 14 true Th, .sv 15 true Th], xid := 0, out := [.srow 6 1000006 3 true Th], hasRet := true, res := [.snil 4, .sv 5 true .bool] })]
noncomputable def order_Back_C : List (Nat × Callee) := [(83, .plain slices_Repeat___int_int__fun)]
noncomputable def order_Back_fun : Fun := ⟨[.sl Th, .sl Th], [.row 3 Th, .v .bool], fun x => order_Back_F x.1 x.2.1⟩
theorem order_Back_ev (x : Tys.I [.sl Th, .sl Th]) : evFun G0 (of_ order_Back_C) A0 (ol_ order_Back_L) Tryz.f52 [.sl Th, .sl Th] [.row 3 Th, .v .bool] x = order_Back_T x.1 x.2.1 := by kernel_rfl
theorem order_Back_ok : FunOk Tryz.prog 52 order_Back_fun := evFun_ok mixed ctx0 (pc slices_Repeat___int_int__ok (no_calls)) Tryz.func52 (by kernel_rfl) _ (fun x => congrArg Tr.run (order_Back_ev x)) (by kernel_rfl) (by kernel_rfl)
noncomputable def slices_Clone___rune_rune__T (s0 : List Int) : Tr (List Int) :=
  .bnd (app 35184372088832 ([]) s0) fun r_1 =>
  .pure r_1
noncomputable def slices_Clone___rune_rune__F (s0 : List Int) : Option (List Int) := (slices_Clone___rune_rune__T s0).run
def slices_Clone___rune_rune__L : List (Nat × LoopAnn) := []
noncomputable def slices_Clone___rune_rune__C : List (Nat × Callee) := []
noncomputable def slices_Clone___rune_rune__fun : Fun := ⟨[.sl Tj], [.row 21 Tj], fun x => slices_Clone___rune_rune__F x.1⟩
noncomputable def slices_Clone___rune_rune__T0 : Tr (List Int) :=
  .pure ([])
theorem slices_Clone___rune_rune__ev0 : evFunS G0 (fun f => olook f slices_Clone___rune_rune__C) ⟨[], [], [], [], [], []⟩ (fun i => olook i slices_Clone___rune_rune__L) Tryz.f84 [.nil] [.row 21 (.int .i32)] = slices_Clone___rune_rune__T0 := by kernel_rfl
theorem slices_Clone___rune_rune__ev1 (s0 : List Int) : evFunS G0 (fun f => olook f slices_Clone___rune_rune__C) ⟨[], [], [], [], [], []⟩ (fun i => olook i slices_Clone___rune_rune__L) Tryz.f84 [.nn false (.int .i32) s0] [.row 21 (.int .i32)] = slices_Clone___rune_rune__T s0 := by kernel_rfl
theorem slices_Clone___rune_rune__nil (r : List Int) (h : slices_Clone___rune_rune__F [] = some r) : slices_Clone___rune_rune__T0.run = some r := by
  simp [slices_Clone___rune_rune__F, slices_Clone___rune_rune__T, slices_Clone___rune_rune__T0, app, mk, Tr.run] at h ⊢
  exact h
theorem slices_Clone___rune_rune__ok : FunOk Tryz.prog 84 slices_Clone___rune_rune__fun := evFunN_ok (A := ⟨[], [], [], [], [], []⟩) (L := fun i => olook i slices_Clone___rune_rune__L) mixed ctx0 (no_calls) Tryz.func84 (by kernel_rfl) _ (fun r h => (congrArg Tr.run slices_Clone___rune_rune__ev0).trans (slices_Clone___rune_rune__nil r h)) (fun s0 r h => (congrArg Tr.run (slices_Clone___rune_rune__ev1 s0)).trans h) (by kernel_rfl)
noncomputable def mirror_Of_L2 (r0 : Int) (t6 : List (Int × Int)) (t7 : Int) : Tr (Lap (Int × (List (Int × Int)) × Int) (Sum Int (Int × Bool))) :=
  .br (decide (t7 < 35)) (
    .bnd (idx t6 t7) fun x_1 =>
    .bnd (idx ([x_1]) 0) fun x_2 =>
    .br (x_2.1 == r0) (
      .bnd (idx ([x_1]) 0) fun x_3 =>
      .pure (.done (.inr (x_3.2, true)))) (
      .bnd (idx ([x_1]) 0) fun x_4 =>
      .br (x_4.2 == r0) (
        .bnd (idx ([x_1]) 0) fun x_5 =>
        .pure (.done (.inr (x_5.1, true)))) (
        .pure (.next (r0, t6, IntKind.i64.wrap (t7 + 1)))))) (
    .pure (.done (.inl r0)))
noncomputable def mirror_Of_T (r0 : Int) : Tr (Int × Bool) :=
  .alt (loopW (fun s => (mirror_Of_L2 s.1 s.2.1 s.2.2).run) (r0, gtab, 0)) (fun l_6 =>
    .pure (l_6, false)) (fun l_7 =>
    .pure (l_7.1, l_7.2))
noncomputable def mirror_Of_F (r0 : Int) : Option (Int × Bool) := (mirror_Of_T r0).run
def mirror_Of_L : List (Nat × LoopAnn) := [(2, { head := [.sv 0 false Tj, .sv 6 true (.arr 35 (.st (.pair Tj Tj))), .sv 7 true Th], xid := 0, out := [.sv 0 false Tj], hasRet := true, res := [.sv 2 true Tj, .sv 3 true .bool] })]
noncomputable def mirror_Of_C : List (Nat × Callee) := []
noncomputable def mirror_Of_fun : Fun := ⟨[Tj], [.v Tj, .v .bool], fun x => mirror_Of_F x.1⟩
theorem mirror_Of_ev (x : Tys.I [Tj]) : evFun G0 (of_ mirror_Of_C) A0 (ol_ mirror_Of_L) Tryz.f85 [Tj] [.v Tj, .v .bool] x = mirror_Of_T x.1 := by kernel_rfl
theorem mirror_Of_ok : FunOk Tryz.prog 85 mirror_Of_fun := evFun_ok mixed ctx0 (no_calls) Tryz.func85 (by kernel_rfl) _ (fun x => congrArg Tr.run (mirror_Of_ev x)) (by kernel_rfl) (by kernel_rfl)
noncomputable def glyphs_Of_L3 (rs0 : List Int) (levels1 : List Int) (out5 : List Int) (t13 : Int) (t14 : Int) : Tr (Lap (List Int × List Int × List Int × Int × Int) (List Int)) :=
  .br (decide (t14 < t13)) (
    .bnd (idx levels1 t14) fun x_2 =>
    .br (decide (x_2 > 0)) (
      .bnd (idx levels1 t14) fun x_3 =>
      .br ((x_3.tmod 2) == 1) (
        .bnd (idx rs0 t14) fun x_4 =>
        .bnd (mirror_Of_F x_4) fun c_5 =>
        .bnd (idx out5 t14) fun x_6 =>
        .pure (.next (rs0, levels1, out5.set (Int.toNat t14) c_5.1, t13, IntKind.i64.wrap (t14 + 1)))) (
        .pure (.next (rs0, levels1, out5, t13, IntKind.i64.wrap (t14 + 1))))) (
      .pure (.next (rs0, levels1, out5, t13, IntKind.i64.wrap (t14 + 1))))) (
    .pure (.done out5))
noncomputable def glyphs_Of_T (rs0 : List Int) (levels1 : List Int) : Tr (List Int) :=
  .bnd (slices_Clone___rune_rune__F rs0) fun c_1 =>
  .bnd (loopW (fun s => (glyphs_Of_L3 s.1 s.2.1 s.2.2.1 s.2.2.2.1 s.2.2.2.2).run) (rs0, levels1, c_1, if (levels1.length : Int) < (rs0.length : Int) then (levels1.length : Int) else (rs0.length : Int), 0)) fun l_7 =>
  .pure l_7
noncomputable def glyphs_Of_F (rs0 : List Int) (levels1 : List Int) : Option (List Int) := (glyphs_Of_T rs0 levels1).run
def glyphs_Of_L : List (Nat × LoopAnn) := [(3, { head := [.sv 0 false Tg, .sv 1 false Te, .srow 5 1000005 21 true Tj, .sv 13 true Th, .sv 14 true Th], xid := 0, out := [.srow 5 1000005 21 true Tj], hasRet := false, res := [] })]
noncomputable def glyphs_Of_C : List (Nat × Callee) := [(84, .plain slices_Clone___rune_rune__fun), (85, .plain mirror_Of_fun)]
noncomputable def glyphs_Of_fun : Fun := ⟨[.sl Tj, .sl Th], [.row 21 Tj], fun x => glyphs_Of_F x.1 x.2.1⟩
theorem glyphs_Of_ev (x : Tys.I [.sl Tj, .sl Th]) : evFun G0 (of_ glyphs_Of_C) A0 (ol_ glyphs_Of_L) Tryz.f53 [.sl Tj, .sl Th] [.row 21 Tj] x = glyphs_Of_T x.1 x.2.1 := by kernel_rfl
theorem glyphs_Of_ok : FunOk Tryz.prog 53 glyphs_Of_fun := evFun_ok mixed ctx0 (pc slices_Clone___rune_rune__ok (pc mirror_Of_ok (no_calls))) Tryz.func53 (by kernel_rfl) _ (fun x => congrArg Tr.run (glyphs_Of_ev x)) (by kernel_rfl) (by kernel_rfl)
noncomputable def cells_Starts_L4 (starts4 : List Int) (sum5 : Int) (t11 : List Int) (t12 : Int) (t13 : Int) : Tr (Lap (List Int × Int × List Int × Int × Int) (List Int × Int)) :=
  .br (decide (t13 < t12)) (
    .bnd (idx t11 t13) fun x_2 =>
    .bnd (idx starts4 t13) fun x_3 =>
    .pure (.next (starts4.set (Int.toNat t13) sum5, IntKind.i64.wrap (sum5 + x_2), t11, t12, IntKind.i64.wrap (t13 + 1)))) (
    .pure (.done (starts4, sum5)))
noncomputable def cells_Starts_T (widths0 : List Int) : Tr (List Int × Int) :=
  .bnd (mk 17592186044416 0 (widths0.length : Int)) fun r_1 =>
  .bnd (loopW (fun s => (cells_Starts_L4 s.1 s.2.1 s.2.2.1 s.2.2.2.1 s.2.2.2.2).run) (r_1, 0, widths0, (widths0.length : Int), 0)) fun l_4 =>
  .pure (l_4.1, l_4.2)
noncomputable def cells_Starts_F (widths0 : List Int) : Option (List Int × Int) := (cells_Starts_T widths0).run
def cells_Starts_L : List (Nat × LoopAnn) := [(4, { head := [.srow 4 1000004 3 true Th, .sv 5 true Th, .sv 11 false Te, .sv 12 true Th, .sv 13 true Th], xid := 0, out := [.srow 4 1000004 3 true Th, .sv 5 true Th], hasRet := false, res := [] })]
noncomputable def cells_Starts_C : List (Nat × Callee) := []
noncomputable def cells_Starts_fun : Fun := ⟨[.sl Th], [.row 3 Th, .v Th], fun x => cells_Starts_F x.1⟩
theorem cells_Starts_ev (x : Tys.I [.sl Th]) : evFun G0 (of_ cells_Starts_C) A0 (ol_ cells_Starts_L) Tryz.f54 [.sl Th] [.row 3 Th, .v Th] x = cells_Starts_T x.1 := by kernel_rfl
theorem cells_Starts_ok : FunOk Tryz.prog 54 cells_Starts_fun := evFun_ok mixed ctx0 (no_calls) Tryz.func54 (by kernel_rfl) _ (fun x => congrArg Tr.run (cells_Starts_ev x)) (by kernel_rfl) (by kernel_rfl)
noncomputable def caret_Stops_L3 (widths0 : List Int) (stops3 : List Int) (t6 : List Int) (t7 : Int) (t8 : Int) : Tr (Lap (List Int × List Int × List Int × Int × Int) (List Int × List Int)) :=
  .br (decide (t8 < t7)) (
    .bnd (idx t6 t8) fun x_1 =>
    .br (decide (x_1 > 0)) (
      .bnd (app 17592186044416 stops3 ([t8])) fun r_2 =>
      .pure (.next (widths0, r_2, t6, t7, IntKind.i64.wrap (t8 + 1)))) (
      .pure (.next (widths0, stops3, t6, t7, IntKind.i64.wrap (t8 + 1))))) (
    .pure (.done (widths0, stops3)))
noncomputable def caret_Stops_T (widths0 : List Int) : Tr (List Int) :=
  .bnd (loopW (fun s => (caret_Stops_L3 s.1 s.2.1 s.2.2.1 s.2.2.2.1 s.2.2.2.2).run) (widths0, [], widths0, (widths0.length : Int), 0)) fun l_3 =>
  .bnd (app 17592186044416 l_3.2 ([(l_3.1.length : Int)])) fun r_4 =>
  .pure r_4
noncomputable def caret_Stops_F (widths0 : List Int) : Option (List Int) := (caret_Stops_T widths0).run
def caret_Stops_L : List (Nat × LoopAnn) := [(3, { head := [.sv 0 false Te, .srow 3 1000003 3 true Th, .sv 6 false Te, .sv 7 true Th, .sv 8 true Th], xid := 0, out := [.sv 0 false Te, .srow 3 1000003 3 true Th], hasRet := false, res := [] })]
noncomputable def caret_Stops_C : List (Nat × Callee) := []
noncomputable def caret_Stops_fun : Fun := ⟨[.sl Th], [.row 3 Th], fun x => caret_Stops_F x.1⟩
theorem caret_Stops_ev (x : Tys.I [.sl Th]) : evFun G0 (of_ caret_Stops_C) A0 (ol_ caret_Stops_L) Tryz.f55 [.sl Th] [.row 3 Th] x = caret_Stops_T x.1 := by kernel_rfl
theorem caret_Stops_ok : FunOk Tryz.prog 55 caret_Stops_fun := evFun_ok mixed ctx0 (no_calls) Tryz.func55 (by kernel_rfl) _ (fun x => congrArg Tr.run (caret_Stops_ev x)) (by kernel_rfl) (by kernel_rfl)
noncomputable def layout_text_line_L7 (t4 : (Int × Int × Bool × Bool) × List Int × List Int × List Int × List Int × List Int × List Int × Int × List Int) (widths5 : List Int) (l7 : (Int × Int × Bool × Bool) × List Int × List Int × List Int × List Int × List Int × List Int × Int × List Int) (mirrored8 : List Int) (t83 : Int) (t84 : Int) : Tr (Lap (((Int × Int × Bool × Bool) × List Int × List Int × List Int × List Int × List Int × List Int × Int × List Int) × List Int × ((Int × Int × Bool × Bool) × List Int × List Int × List Int × List Int × List Int × List Int × Int × List Int) × List Int × Int × Int) (((Int × Int × Bool × Bool) × List Int × List Int × List Int × List Int × List Int × List Int × Int × List Int) × (Int × Int × Bool × Bool) × List Int × List Int × List Int × List Int × List Int × List Int × Int × List Int)) :=
  .br (decide (t84 < t83)) (
    .bnd (idx l7.2.2.1 t84) fun x_11 =>
    .bnd (idx mirrored8 x_11) fun x_12 =>
    .bnd (app 35184372088832 l7.2.2.2.2.1 ([x_12])) fun r_13 =>
    .bnd (idx widths5 x_11) fun x_14 =>
    .bnd (app 17592186044416 l7.2.2.2.2.2.1 ([x_14])) fun r_15 =>
    .pure (.next (t4, widths5, ((l7.1.1, l7.1.2.1, l7.1.2.2.1, l7.1.2.2.2), l7.2.1, l7.2.2.1, l7.2.2.2.1, r_13, r_15, l7.2.2.2.2.2.2.1, l7.2.2.2.2.2.2.2.1, l7.2.2.2.2.2.2.2.2), mirrored8, t83, IntKind.i64.wrap (t84 + 1)))) (
    .pure (.done (t4, ((l7.1.1, l7.1.2.1, l7.1.2.2.1, l7.1.2.2.2), l7.2.1, l7.2.2.1, l7.2.2.2.1, l7.2.2.2.2.1, l7.2.2.2.2.2.1, l7.2.2.2.2.2.2.1, l7.2.2.2.2.2.2.2.1, l7.2.2.2.2.2.2.2.2))))
noncomputable def layout_text_line_T (t0 : List Int × List Int × List Int × List Int × List Int) (f1 : Int × Int × Bool × Bool) : Tr ((Int × Int × Bool × Bool) × List Int × List Int × List Int × List Int × List Int × List Int × Int × List Int) :=
  .bnd (cut t0.2.1 f1.1 f1.2.1) fun r_1 =>
  .bnd (cut t0.2.2.1 f1.1 f1.2.1) fun r_2 =>
  .bnd (cut t0.2.2.2.1 f1.1 f1.2.1) fun r_3 =>
  .bnd (cut t0.2.2.2.2 f1.1 f1.2.1) fun r_4 =>
  .bnd (relevel_Of_F r_3 r_2 r_4) fun c_5 =>
  .bnd (order_Visual_F c_5) fun c_6 =>
  .bnd (marks_Fix_F c_6 c_5 r_2 r_1) fun c_7 =>
  .bnd (order_Back_F c_7 c_5) fun c_8 =>
  .bnd (cut t0.1 f1.1 f1.2.1) fun r_9 =>
  .bnd (glyphs_Of_F r_9 c_5) fun c_10 =>
  .bnd (loopW (fun s => (layout_text_line_L7 s.1 s.2.1 s.2.2.1 s.2.2.2.1 s.2.2.2.2.1 s.2.2.2.2.2).run) (((0, 0, false, false), [], [], [], [], [], [], 0, []), r_1, ((f1.1, f1.2.1, f1.2.2.1, f1.2.2.2), c_5, c_7, c_8.1, [], [], [], 0, []), c_10, (c_7.length : Int), 0)) fun l_16 =>
  .bnd (cells_Starts_F l_16.2.2.2.2.2.2.1) fun c_17 =>
  .bnd (idx ([((l_16.2.1.1, l_16.2.1.2.1, l_16.2.1.2.2.1, l_16.2.1.2.2.2), (), (), (), (), (), (), l_16.2.2.2.2.2.2.2.2.1, ())]) 0) fun x_18 =>
  .bnd (caret_Stops_F l_16.2.2.2.2.2.2.1) fun c_19 =>
  .pure ((x_18.1.1, x_18.1.2.1, x_18.1.2.2.1, x_18.1.2.2.2), l_16.2.2.1, l_16.2.2.2.1, l_16.2.2.2.2.1, l_16.2.2.2.2.2.1, l_16.2.2.2.2.2.2.1, c_17.1, c_17.2, c_19)
noncomputable def layout_text_line_F (t0 : List Int × List Int × List Int × List Int × List Int) (f1 : Int × Int × Bool × Bool) : Option ((Int × Int × Bool × Bool) × List Int × List Int × List Int × List Int × List Int × List Int × Int × List Int) := (layout_text_line_T t0 f1).run
def layout_text_line_L : List (Nat × LoopAnn) := [(7, { head := [.sbox 4 1000004 48 true (.st (.pair (.st (.pair Th (.pair Th (.pair .bool .bool)))) (.pair Te (.pair Te (.pair Te (.pair Tg (.pair Te (.pair Te (.pair Th Te))))))))), .sv 5 false Te, .sboxh 7 1000007 48 (.st (.pair (.st (.pair Th (.pair Th (.pair .bool .bool)))) (.pair Te (.pair Te (.pair Te (.pair Tg (.pair Te (.pair Te (.pair Th Te))))))))) [(4, 3), (5, 3), (6, 3), (7, 21), (8, 3), (9, 3), (11, 3)] [(82, 5)], .srow 8 1000008 21 true Tj, .sv 83 true Th, .sv 84 true Th], xid := 0, out := [.sbox 4 1000004 48 true (.st (.pair (.st (.pair Th (.pair Th (.pair .bool .bool)))) (.pair Te (.pair Te (.pair Te (.pair Tg (.pair Te (.pair Te (.pair Th Te))))))))), .sboxh 7 1000007 48 (.st (.pair (.st (.pair Th (.pair Th (.pair .bool .bool)))) (.pair Te (.pair Te (.pair Te (.pair Tg (.pair Te (.pair Te (.pair Th Te))))))))) [(4, 3), (5, 3), (6, 3), (7, 21), (8, 3), (9, 3), (11, 3)] []], hasRet := false, res := [] })]
noncomputable def layout_text_line_C : List (Nat × Callee) := [(49, .plain relevel_Of_fun), (51, .plain order_Visual_fun), (50, .plain marks_Fix_fun), (52, .plain order_Back_fun), (53, .plain glyphs_Of_fun), (54, .plain cells_Starts_fun), (55, .plain caret_Stops_fun)]
noncomputable def layout_text_line_fun : Fun := ⟨[.ptr (.st (.pair Tg (.pair Te (.pair Tf (.pair Te Te))))), .st (.pair Th (.pair Th (.pair .bool .bool)))], [.v (.st (.pair (.st (.pair Th (.pair Th (.pair .bool .bool)))) (.pair Te (.pair Te (.pair Te (.pair Tg (.pair Te (.pair Te (.pair Th Te)))))))))], fun x => layout_text_line_F x.1 x.2.1⟩
noncomputable def layout_text_line_T2 (t0 : List Int × List Int × List Int × List Int × List Int) (f1 : Int × Int × Bool × Bool) : Tr ((Int × Int × Bool × Bool) × List Int × List Int × List Int × List Int × List Int × List Int × Int × List Int) :=
  .bnd (cut t0.2.1 f1.1 f1.2.1) fun r_1 =>
  .bnd (cut t0.2.2.1 f1.1 f1.2.1) fun r_2 =>
  .bnd (cut t0.2.2.2.1 f1.1 f1.2.1) fun r_3 =>
  .bnd (cut t0.2.2.2.2 f1.1 f1.2.1) fun r_4 =>
  .bnd (relevel_Of_F r_3 r_2 r_4) fun c_5 =>
  .bnd (order_Visual_F c_5) fun c_6 =>
  .bnd (marks_Fix_F c_6 c_5 r_2 r_1) fun c_7 =>
  .bnd (order_Back_F c_7 c_5) fun c_8 =>
  .bnd (cut t0.1 f1.1 f1.2.1) fun r_9 =>
  .bnd (glyphs_Of_F r_9 c_5) fun c_10 =>
  .bnd (loopW (fun s => (layout_text_line_L7 s.1 s.2.1 s.2.2.1 s.2.2.2.1 s.2.2.2.2.1 s.2.2.2.2.2).run) (((0, 0, false, false), [], [], [], [], [], [], 0, []), r_1, ((f1.1, f1.2.1, f1.2.2.1, f1.2.2.2), c_5, c_7, c_8.1, [], [], [], 0, []), c_10, (c_7.length : Int), 0)) fun l_16 =>
  .bnd (cells_Starts_F l_16.2.2.2.2.2.2.1) fun c_17 =>
  .bnd (idx ([((l_16.2.1.1, l_16.2.1.2.1, l_16.2.1.2.2.1, l_16.2.1.2.2.2), (), (), (), (), (), (), l_16.2.2.2.2.2.2.2.2.1, ())]) 0) fun x_18 =>
  .bnd (caret_Stops_F l_16.2.2.2.2.2.2.1) fun c_19 =>
  .pure ((x_18.1.1, x_18.1.2.1, x_18.1.2.2.1, x_18.1.2.2.2), l_16.2.2.1, l_16.2.2.2.1, l_16.2.2.2.2.1, l_16.2.2.2.2.2.1, l_16.2.2.2.2.2.2.1, c_17.1, c_17.2, c_19)
def layout_text_line_W : Twin := ⟨2, 20, 22, [0, 1, 2, 3, 4, 5, 6, 7, 8, 9, 10, 11, 12, 13, 14, 15, 16, 17, 18, 19], [20, 22, 21, 23], [22, 20, 21, 23], [22]⟩
theorem layout_text_line_ev (x : Tys.I [.ptr (.st (.pair Tg (.pair Te (.pair Tf (.pair Te Te))))), .st (.pair Th (.pair Th (.pair .bool .bool)))]) : evFunW G0 (of_ layout_text_line_C) ⟨[], [(3, [0, 1, 3, 4, 5, 6, 2, 7, 8, 9])], [], [], [], [(50, [(4, 3), (5, 3), (6, 3), (7, 21), (8, 3), (9, 3), (11, 3)]), (119, [(4, 3), (5, 3), (6, 3), (7, 21), (8, 3), (9, 3), (11, 3)])]⟩ (ol_ layout_text_line_L) layout_text_line_W false Tryz.f28 [.ptr (.st (.pair Tg (.pair Te (.pair Tf (.pair Te Te))))), .st (.pair Th (.pair Th (.pair .bool .bool)))] [.v (.st (.pair (.st (.pair Th (.pair Th (.pair .bool .bool)))) (.pair Te (.pair Te (.pair Te (.pair Tg (.pair Te (.pair Te (.pair Th Te)))))))))] x = layout_text_line_T x.1 x.2.1 := by kernel_rfl
theorem layout_text_line_ev2 (x : Tys.I [.ptr (.st (.pair (.sl (.int .i32)) (.pair (.sl (.int .i64)) (.pair (.sl (.int .u8)) (.pair (.sl (.int .i64)) (.sl (.int .i64))))))), .st (.pair (.int .i64) (.pair (.int .i64) (.pair .bool .bool)))]) : evFunW G0 (fun f => olook f layout_text_line_C) ⟨[], [(3, [0, 1, 3, 4, 5, 6, 2, 7, 8, 9])], [], [], [], [(50, [(4, 3), (5, 3), (6, 3), (7, 21), (8, 3), (9, 3), (11, 3)]), (119, [(4, 3), (5, 3), (6, 3), (7, 21), (8, 3), (9, 3), (11, 3)])]⟩ (fun i => olook i layout_text_line_L) layout_text_line_W true Tryz.f28 [.ptr (.st (.pair (.sl (.int .i32)) (.pair (.sl (.int .i64)) (.pair (.sl (.int .u8)) (.pair (.sl (.int .i64)) (.sl (.int .i64))))))), .st (.pair (.int .i64) (.pair (.int .i64) (.pair .bool .bool)))] [.v (.st (.pair (.st (.pair (.int .i64) (.pair (.int .i64) (.pair .bool .bool)))) (.pair (.sl (.int .i64)) (.pair (.sl (.int .i64)) (.pair (.sl (.int .i64)) (.pair (.sl (.int .i32)) (.pair (.sl (.int .i64)) (.pair (.sl (.int .i64)) (.pair (.int .i64) (.sl (.int .i64)))))))))))] x = layout_text_line_T2 x.1 x.2.1 := by kernel_rfl
theorem layout_text_line_same (t0 : List Int × List Int × List Int × List Int × List Int) (f1 : Int × Int × Bool × Bool) : (layout_text_line_T2 t0 f1).run = (layout_text_line_T t0 f1).run := by
  unfold layout_text_line_T2 layout_text_line_T
  repeat' (first | with_reducible rfl | (refine Tr.box_l ?_) | (refine Tr.box_r ?_) | exact Tr.swap2 _ _ _ | (refine Tr.bnd_congr fun _ => ?_) | (refine Tr.br_congr ?_ ?_) | (refine Tr.alt_congr (fun _ => ?_) (fun _ => ?_)))
theorem layout_text_line_ok : FunOk Tryz.prog 28 layout_text_line_fun := evFunW_ok (t := layout_text_line_W) mixed ctx0 (pc relevel_Of_ok (pc order_Visual_ok (pc marks_Fix_ok (pc order_Back_ok (pc glyphs_Of_ok (pc cells_Starts_ok (pc caret_Stops_ok (no_calls)))))))) Tryz.func28 (by kernel_rfl) _ (fun x => congrArg Tr.run (layout_text_line_ev x)) (fun x => (congrArg Tr.run (layout_text_line_ev2 x)).trans (layout_text_line_same x.1 x.2.1)) (by kernel_rfl) (by kernel_rfl)
noncomputable def layout_Of_L16 (t6 : List Int × List Int × List Int × List Int × List ((Int × Int × Bool × Bool) × List Int × List Int × List Int × List Int × List Int × List Int × Int × List Int)) (scalars9 : List Int) (offsets10 : List Int) (resolved11 : List Int × List Int × (List (Int × Int × Int)) × List Int) (statuses13 : List Int) (t16 : List Int × List Int × List Int × List Int × List Int) (lines17 : List ((Int × Int × Bool × Bool) × List Int × List Int × List Int × List Int × List Int × List Int × Int × List Int)) (t73 : List (Int × Int × Bool × Bool)) (t74 : Int) (t75 : Int) : Tr (Lap ((List Int × List Int × List Int × List Int × List ((Int × Int × Bool × Bool) × List Int × List Int × List Int × List Int × List Int × List Int × Int × List Int)) × List Int × List Int × (List Int × List Int × (List (Int × Int × Int)) × List Int) × List Int × (List Int × List Int × List Int × List Int × List Int) × (List ((Int × Int × Bool × Bool) × List Int × List Int × List Int × List Int × List Int × List Int × Int × List Int)) × (List (Int × Int × Bool × Bool)) × Int × Int) ((List Int × List Int × List Int × List Int × List ((Int × Int × Bool × Bool) × List Int × List Int × List Int × List Int × List Int × List Int × Int × List Int)) × List Int × List Int × (List Int × List Int × (List (Int × Int × Int)) × List Int) × List Int × List ((Int × Int × Bool × Bool) × List Int × List Int × List Int × List Int × List Int × List Int × Int × List Int))) :=
  .br (decide (t75 < t74)) (
    .bnd (idx t73 t75) fun x_14 =>
    .bnd (idx ([x_14]) 0) fun x_15 =>
    .bnd (layout_text_line_F t16 x_15) fun c_16 =>
    .bnd (idx lines17 t75) fun x_17 =>
    .pure (.next (t6, scalars9, offsets10, resolved11, statuses13, t16, lines17.set (Int.toNat t75) c_16, t73, t74, IntKind.i64.wrap (t75 + 1)))) (
    .pure (.done (t6, scalars9, offsets10, resolved11, statuses13, lines17)))
noncomputable def layout_Of_T (b0 : List Int) (d1 : Int) (width2 : Int) : Tr ((List Int × List Int × List Int × List Int × List ((Int × Int × Bool × Bool) × List Int × List Int × List Int × List Int × List Int × List Int × Int × List Int)) × Option (Int × ByteArray × Int)) :=
  .bnd (layout_Check_F (b0.length : Int) width2) fun c_1 =>
  .br c_1.isSome (
    .pure (([], [], [], [], []), c_1)) (
    .bnd (utf_Decode_F b0) fun c_2 =>
    .bnd (levels_Of_F c_2.1 d1) fun c_3 =>
    .br c_3.2.isSome (
      .pure (([], [], [], [], []), c_3.2)) (
      .bnd (linebreak_Of_F c_2.1) fun c_4 =>
      .bnd (cellw_Of_F c_2.1) fun c_5 =>
      .bnd (linec_Of_F c_2.1) fun c_6 =>
      .bnd (measure_Of_F c_5 c_6) fun c_7 =>
      .bnd (fill_Lines_F c_7 c_4 width2) fun c_8 =>
      .br c_8.2.isSome (
        .pure (([], [], [], [], []), c_8.2)) (
        .bnd (idx ([c_3.1]) 0) fun x_9 =>
        .bnd (idx ([c_3.1]) 0) fun x_10 =>
        .bnd (idx ([c_3.1]) 0) fun x_11 =>
        .bnd (layout_bases_F x_11) fun c_12 =>
        .bnd (mk 703687441776 ((0, (0, (false, false))), ([], ([], ([], ([], ([], ([], (0, [])))))))) (c_8.1.length : Int)) fun r_13 =>
        .bnd (loopW (fun s => (layout_Of_L16 s.1 s.2.1 s.2.2.1 s.2.2.2.1 s.2.2.2.2.1 s.2.2.2.2.2.1 s.2.2.2.2.2.2.1 s.2.2.2.2.2.2.2.1 s.2.2.2.2.2.2.2.2.1 s.2.2.2.2.2.2.2.2.2).run) (([], [], [], [], []), c_2.1, c_2.2, c_3.1, c_4, (c_2.1, c_5, x_9.1, x_10.2.1, c_12), r_13, c_8.1, (c_8.1.length : Int), 0)) fun l_18 =>
        .bnd (idx ([l_18.2.2.2.1]) 0) fun x_19 =>
        .pure ((l_18.2.1, l_18.2.2.1, x_19.2.1, l_18.2.2.2.2.1, l_18.2.2.2.2.2), none))))
noncomputable def layout_Of_F (b0 : List Int) (d1 : Int) (width2 : Int) : Option ((List Int × List Int × List Int × List Int × List ((Int × Int × Bool × Bool) × List Int × List Int × List Int × List Int × List Int × List Int × Int × List Int)) × Option (Int × ByteArray × Int)) := (layout_Of_T b0 d1 width2).run
def layout_Of_L : List (Nat × LoopAnn) := [(16, { head := [.sbox 6 1000006 38 true (.st (.pair Tg (.pair Te (.pair Te (.pair Te (.sl (.st (.pair (.st (.pair Th (.pair Th (.pair .bool .bool)))) (.pair Te (.pair Te (.pair Te (.pair Tg (.pair Te (.pair Te (.pair Th Te))))))))))))))), .sv 9 true Tg, .srow 10 1000010 3 true Th, .sbox 11 1000011 68 true (.st (.pair Tf (.pair Te (.pair (.sl Tc) Te)))), .srow 13 1000013 113 true Th, .sbox 16 1000016 82 true (.st (.pair Tg (.pair Te (.pair Tf (.pair Te Te))))), .srow 17 1000017 48 true (.st (.pair (.st (.pair Th (.pair Th (.pair .bool .bool)))) (.pair Te (.pair Te (.pair Te (.pair Tg (.pair Te (.pair Te (.pair Th Te))))))))), .srow 73 1000073 46 true (.st (.pair Th (.pair Th (.pair .bool .bool)))), .sv 74 true Th, .sv 75 true Th], xid := 0, out := [.sbox 6 1000006 38 true (.st (.pair Tg (.pair Te (.pair Te (.pair Te (.sl (.st (.pair (.st (.pair Th (.pair Th (.pair .bool .bool)))) (.pair Te (.pair Te (.pair Te (.pair Tg (.pair Te (.pair Te (.pair Th Te))))))))))))))), .sv 9 true Tg, .srow 10 1000010 3 true Th, .sbox 11 1000011 68 true (.st (.pair Tf (.pair Te (.pair (.sl Tc) Te)))), .srow 13 1000013 113 true Th, .srow 17 1000017 48 true (.st (.pair (.st (.pair Th (.pair Th (.pair .bool .bool)))) (.pair Te (.pair Te (.pair Te (.pair Tg (.pair Te (.pair Te (.pair Th Te)))))))))], hasRet := false, res := [] })]
noncomputable def layout_Of_C : List (Nat × Callee) := [(6, .plain layout_Check_fun), (20, .plain utf_Decode_fun), (21, .plain levels_Of_fun), (22, .plain linebreak_Of_fun), (23, .plain cellw_Of_fun), (26, .plain linec_Of_fun), (25, .plain measure_Of_fun), (24, .plain fill_Lines_fun), (27, .plain layout_bases_fun), (28, .plain layout_text_line_fun)]
noncomputable def layout_Of_fun : Fun := ⟨[.sl Ti, Th, Th], [.v (.st (.pair Tg (.pair Te (.pair Te (.pair Te (.sl (.st (.pair (.st (.pair Th (.pair Th (.pair .bool .bool)))) (.pair Te (.pair Te (.pair Te (.pair Tg (.pair Te (.pair Te (.pair Th Te))))))))))))))), .v (.err 52 26)], fun x => layout_Of_F x.1 x.2.1 x.2.2.1⟩
noncomputable def layout_Of_T2 (b0 : List Int) (d1 : Int) (width2 : Int) : Tr ((List Int × List Int × List Int × List Int × List ((Int × Int × Bool × Bool) × List Int × List Int × List Int × List Int × List Int × List Int × Int × List Int)) × Option (Int × ByteArray × Int)) :=
  .bnd (layout_Check_F (b0.length : Int) width2) fun c_1 =>
  .br c_1.isSome (
    .pure (([], [], [], [], []), c_1)) (
    .bnd (utf_Decode_F b0) fun c_2 =>
    .bnd (levels_Of_F c_2.1 d1) fun c_3 =>
    .br c_3.2.isSome (
      .pure (([], [], [], [], []), c_3.2)) (
      .bnd (linebreak_Of_F c_2.1) fun c_4 =>
      .bnd (cellw_Of_F c_2.1) fun c_5 =>
      .bnd (linec_Of_F c_2.1) fun c_6 =>
      .bnd (measure_Of_F c_5 c_6) fun c_7 =>
      .bnd (fill_Lines_F c_7 c_4 width2) fun c_8 =>
      .br c_8.2.isSome (
        .pure (([], [], [], [], []), c_8.2)) (
        .bnd (idx ([c_3.1]) 0) fun x_9 =>
        .bnd (idx ([c_3.1]) 0) fun x_10 =>
        .bnd (idx ([c_3.1]) 0) fun x_11 =>
        .bnd (layout_bases_F x_11) fun c_12 =>
        .bnd (mk 703687441776 ((0, (0, (false, false))), ([], ([], ([], ([], ([], ([], (0, [])))))))) (c_8.1.length : Int)) fun r_13 =>
        .bnd (loopW (fun s => (layout_Of_L16 s.1 s.2.1 s.2.2.1 s.2.2.2.1 s.2.2.2.2.1 s.2.2.2.2.2.1 s.2.2.2.2.2.2.1 s.2.2.2.2.2.2.2.1 s.2.2.2.2.2.2.2.2.1 s.2.2.2.2.2.2.2.2.2).run) (([], [], [], [], []), c_2.1, c_2.2, c_3.1, c_4, (c_2.1, c_5, x_9.1, x_10.2.1, c_12), r_13, c_8.1, (c_8.1.length : Int), 0)) fun l_18 =>
        .bnd (idx ([l_18.2.2.2.1]) 0) fun x_19 =>
        .pure ((l_18.2.1, l_18.2.2.1, x_19.2.1, l_18.2.2.2.2.1, l_18.2.2.2.2.2), none))))
def layout_Of_W : Twin := ⟨13, 7, 9, [0, 1, 2, 3, 4, 5, 6], [7, 9, 8, 10], [9, 7, 8, 10], [9]⟩
theorem layout_Of_ev (x : Tys.I [.sl Ti, Th, Th]) : evFunW G0 (of_ layout_Of_C) A0 (ol_ layout_Of_L) layout_Of_W false Tryz.f11 [.sl Ti, Th, Th] [.v (.st (.pair Tg (.pair Te (.pair Te (.pair Te (.sl (.st (.pair (.st (.pair Th (.pair Th (.pair .bool .bool)))) (.pair Te (.pair Te (.pair Te (.pair Tg (.pair Te (.pair Te (.pair Th Te))))))))))))))), .v (.err 52 26)] x = layout_Of_T x.1 x.2.1 x.2.2.1 := by kernel_rfl
theorem layout_Of_ev2 (x : Tys.I [.sl (.int .u8), .int .i64, .int .i64]) : evFunW G0 (fun f => olook f layout_Of_C) ⟨[], [], [], [], [], []⟩ (fun i => olook i layout_Of_L) layout_Of_W true Tryz.f11 [.sl (.int .u8), .int .i64, .int .i64] [.v (.st (.pair (.sl (.int .i32)) (.pair (.sl (.int .i64)) (.pair (.sl (.int .i64)) (.pair (.sl (.int .i64)) (.sl (.st (.pair (.st (.pair (.int .i64) (.pair (.int .i64) (.pair .bool .bool)))) (.pair (.sl (.int .i64)) (.pair (.sl (.int .i64)) (.pair (.sl (.int .i64)) (.pair (.sl (.int .i32)) (.pair (.sl (.int .i64)) (.pair (.sl (.int .i64)) (.pair (.int .i64) (.sl (.int .i64))))))))))))))))), .v (.err 52 26)] x = layout_Of_T2 x.1 x.2.1 x.2.2.1 := by kernel_rfl
theorem layout_Of_same (b0 : List Int) (d1 : Int) (width2 : Int) : (layout_Of_T2 b0 d1 width2).run = (layout_Of_T b0 d1 width2).run := by
  unfold layout_Of_T2 layout_Of_T
  repeat' (first | with_reducible rfl | (refine Tr.box_l ?_) | (refine Tr.box_r ?_) | exact Tr.swap2 _ _ _ | (refine Tr.bnd_congr fun _ => ?_) | (refine Tr.br_congr ?_ ?_) | (refine Tr.alt_congr (fun _ => ?_) (fun _ => ?_)))
theorem layout_Of_ok : FunOk Tryz.prog 11 layout_Of_fun := evFunW_ok (t := layout_Of_W) mixed ctx0 (pc layout_Check_ok (pc utf_Decode_ok (pc levels_Of_ok (pc linebreak_Of_ok (pc cellw_Of_ok (pc linec_Of_ok (pc measure_Of_ok (pc fill_Lines_ok (pc layout_bases_ok (pc layout_text_line_ok (no_calls))))))))))) Tryz.func11 (by kernel_rfl) _ (fun x => congrArg Tr.run (layout_Of_ev x)) (fun x => (congrArg Tr.run (layout_Of_ev2 x)).trans (layout_Of_same x.1 x.2.1 x.2.2.1)) (by kernel_rfl) (by kernel_rfl)
noncomputable def utf_Scalar_T (r0 : Int) : Tr Bool :=
  .br (decide (0 ≤ r0)) (
    .br (decide (r0 < 55296)) (
      .pure true) (
      .br (decide (57343 < r0)) (
        .pure (decide (r0 ≤ 1114111))) (
        .pure false))) (
    .br (decide (57343 < r0)) (
      .pure (decide (r0 ≤ 1114111))) (
      .pure false))
noncomputable def utf_Scalar_F (r0 : Int) : Option Bool := (utf_Scalar_T r0).run
def utf_Scalar_L : List (Nat × LoopAnn) := []
noncomputable def utf_Scalar_C : List (Nat × Callee) := []
noncomputable def utf_Scalar_fun : Fun := ⟨[Tj], [.v .bool], fun x => utf_Scalar_F x.1⟩
theorem utf_Scalar_ev (x : Tys.I [Tj]) : evFun G0 (of_ utf_Scalar_C) A0 (ol_ utf_Scalar_L) Tryz.f56 [Tj] [.v .bool] x = utf_Scalar_T x.1 := by kernel_rfl
theorem utf_Scalar_ok : FunOk Tryz.prog 56 utf_Scalar_fun := evFun_ok mixed ctx0 (no_calls) Tryz.func56 (by kernel_rfl) _ (fun x => congrArg Tr.run (utf_Scalar_ev x)) (by kernel_rfl) (by kernel_rfl)
noncomputable def utf_tail_T (r0 : Int) : Tr Int :=
  .pure (ibits .or .u8 128 (IntKind.u8.wrap (ibits .and .i32 r0 63)))
noncomputable def utf_tail_F (r0 : Int) : Option Int := (utf_tail_T r0).run
def utf_tail_L : List (Nat × LoopAnn) := []
noncomputable def utf_tail_C : List (Nat × Callee) := []
noncomputable def utf_tail_fun : Fun := ⟨[Tj], [.v Ti], fun x => utf_tail_F x.1⟩
theorem utf_tail_ev (x : Tys.I [Tj]) : evFun G0 (of_ utf_tail_C) A0 (ol_ utf_tail_L) Tryz.f57 [Tj] [.v Ti] x = utf_tail_T x.1 := by kernel_rfl
theorem utf_tail_ok : FunOk Tryz.prog 57 utf_tail_fun := evFun_ok mixed ctx0 (no_calls) Tryz.func57 (by kernel_rfl) _ (fun x => congrArg Tr.run (utf_tail_ev x)) (by kernel_rfl) (by kernel_rfl)
noncomputable def utf_write_T (b0 : List Int) (r1 : Int) : Tr (List Int) :=
  .bnd (utf_Scalar_F r1) fun c_1 =>
  .br (!c_1) (
    .br (decide (65533 < 128)) (
      .bnd (app 140737488355328 b0 ([IntKind.u8.wrap 65533])) fun r_2 =>
      .pure r_2) (
      .br (decide (65533 < 2048)) (
        .bnd (utf_tail_F 65533) fun c_3 =>
        .bnd (app 140737488355328 b0 ([ibits .or .u8 192 (IntKind.u8.wrap (shiftBy .shr .i32 65533 6)), c_3])) fun r_4 =>
        .pure r_4) (
        .br (decide (65533 < 65536)) (
          .bnd (utf_tail_F (shiftBy .shr .i32 65533 6)) fun c_5 =>
          .bnd (utf_tail_F 65533) fun c_6 =>
          .bnd (app 140737488355328 b0 ([ibits .or .u8 224 (IntKind.u8.wrap (shiftBy .shr .i32 65533 12)), c_5, c_6])) fun r_7 =>
          .pure r_7) (
          .bnd (utf_tail_F (shiftBy .shr .i32 65533 12)) fun c_8 =>
          .bnd (utf_tail_F (shiftBy .shr .i32 65533 6)) fun c_9 =>
          .bnd (utf_tail_F 65533) fun c_10 =>
          .bnd (app 140737488355328 b0 ([ibits .or .u8 240 (IntKind.u8.wrap (shiftBy .shr .i32 65533 18)), c_8, c_9, c_10])) fun r_11 =>
          .pure r_11)))) (
    .br (decide (r1 < 128)) (
      .bnd (app 140737488355328 b0 ([IntKind.u8.wrap r1])) fun r_12 =>
      .pure r_12) (
      .br (decide (r1 < 2048)) (
        .bnd (utf_tail_F r1) fun c_13 =>
        .bnd (app 140737488355328 b0 ([ibits .or .u8 192 (IntKind.u8.wrap (shiftBy .shr .i32 r1 6)), c_13])) fun r_14 =>
        .pure r_14) (
        .br (decide (r1 < 65536)) (
          .bnd (utf_tail_F (shiftBy .shr .i32 r1 6)) fun c_15 =>
          .bnd (utf_tail_F r1) fun c_16 =>
          .bnd (app 140737488355328 b0 ([ibits .or .u8 224 (IntKind.u8.wrap (shiftBy .shr .i32 r1 12)), c_15, c_16])) fun r_17 =>
          .pure r_17) (
          .bnd (utf_tail_F (shiftBy .shr .i32 r1 12)) fun c_18 =>
          .bnd (utf_tail_F (shiftBy .shr .i32 r1 6)) fun c_19 =>
          .bnd (utf_tail_F r1) fun c_20 =>
          .bnd (app 140737488355328 b0 ([ibits .or .u8 240 (IntKind.u8.wrap (shiftBy .shr .i32 r1 18)), c_18, c_19, c_20])) fun r_21 =>
          .pure r_21))))
noncomputable def utf_write_F (b0 : List Int) (r1 : Int) : Option (List Int) := (utf_write_T b0 r1).run
def utf_write_L : List (Nat × LoopAnn) := []
noncomputable def utf_write_C : List (Nat × Callee) := [(56, .plain utf_Scalar_fun), (57, .plain utf_tail_fun)]
noncomputable def utf_write_fun : TFun := ⟨5, Ti, [Tj], fun s x => utf_write_F s x.1⟩
theorem utf_write_ev (s : List Int) (x : Tys.I [Tj]) : evFunT G0 (of_ utf_write_C) A0 (ol_ utf_write_L) Tryz.f29 5 Ti [Tj] s x = utf_write_T s x.1 := by kernel_rfl
theorem utf_write_ok : TakeOk Tryz.prog 29 utf_write_fun := evFunT_ok mixed ctx0 (pc utf_Scalar_ok (pc utf_tail_ok (no_calls))) Tryz.func29 (by kernel_rfl) _ (fun s x => congrArg Tr.run (utf_write_ev s x)) (by kernel_rfl)
noncomputable def utf_Encode_L3 (b3 : List Int) (t6 : List Int) (t7 : Int) (t8 : Int) : Tr (Lap (List Int × List Int × Int × Int) (List Int)) :=
  .br (decide (t8 < t7)) (
    .bnd (idx t6 t8) fun x_1 =>
    .bnd (utf_write_F b3 x_1) fun c_2 =>
    .pure (.next (c_2, t6, t7, IntKind.i64.wrap (t8 + 1)))) (
    .pure (.done b3))
noncomputable def utf_Encode_T (rs0 : List Int) : Tr (List Int) :=
  .bnd (loopW (fun s => (utf_Encode_L3 s.1 s.2.1 s.2.2.1 s.2.2.2).run) ([], rs0, (rs0.length : Int), 0)) fun l_3 =>
  .pure l_3
noncomputable def utf_Encode_F (rs0 : List Int) : Option (List Int) := (utf_Encode_T rs0).run
def utf_Encode_L : List (Nat × LoopAnn) := [(3, { head := [.srow 3 1000003 5 true Ti, .sv 6 false Tg, .sv 7 true Th, .sv 8 true Th], xid := 0, out := [.srow 3 1000003 5 true Ti], hasRet := false, res := [] })]
noncomputable def utf_Encode_C : List (Nat × Callee) := [(29, .take utf_write_fun)]
noncomputable def utf_Encode_fun : Fun := ⟨[.sl Tj], [.row 5 Ti], fun x => utf_Encode_F x.1⟩
theorem utf_Encode_ev (x : Tys.I [.sl Tj]) : evFun G0 (of_ utf_Encode_C) ⟨[], [], [29], [], [], []⟩ (ol_ utf_Encode_L) Tryz.f12 [.sl Tj] [.row 5 Ti] x = utf_Encode_T x.1 := by kernel_rfl
theorem utf_Encode_ok : FunOk Tryz.prog 12 utf_Encode_fun := evFun_ok mixed ctx0 (cons_calls (fb := .take utf_write_fun) utf_write_ok (fun h => by rfl) (no_calls)) Tryz.func12 (by kernel_rfl) _ (fun x => congrArg Tr.run (utf_Encode_ev x)) (by kernel_rfl) (by kernel_rfl)
noncomputable def layout_Line_Text_T (l0 : (Int × Int × Bool × Bool) × List Int × List Int × List Int × List Int × List Int × List Int × Int × List Int) : Tr (List Int) :=
  .bnd (utf_Encode_F l0.2.2.2.2.1) fun c_1 =>
  .pure c_1
noncomputable def layout_Line_Text_F (l0 : (Int × Int × Bool × Bool) × List Int × List Int × List Int × List Int × List Int × List Int × Int × List Int) : Option (List Int) := (layout_Line_Text_T l0).run
def layout_Line_Text_L : List (Nat × LoopAnn) := []
noncomputable def layout_Line_Text_C : List (Nat × Callee) := [(12, .plain utf_Encode_fun)]
noncomputable def layout_Line_Text_fun : Fun := ⟨[.ptr (.st (.pair (.st (.pair Th (.pair Th (.pair .bool .bool)))) (.pair Te (.pair Te (.pair Te (.pair Tg (.pair Te (.pair Te (.pair Th Te)))))))))], [.row 5 Ti], fun x => layout_Line_Text_F x.1⟩
theorem layout_Line_Text_ev (x : Tys.I [.ptr (.st (.pair (.st (.pair Th (.pair Th (.pair .bool .bool)))) (.pair Te (.pair Te (.pair Te (.pair Tg (.pair Te (.pair Te (.pair Th Te)))))))))]) : evFun G0 (of_ layout_Line_Text_C) A0 (ol_ layout_Line_Text_L) Tryz.f13 [.ptr (.st (.pair (.st (.pair Th (.pair Th (.pair .bool .bool)))) (.pair Te (.pair Te (.pair Te (.pair Tg (.pair Te (.pair Te (.pair Th Te)))))))))] [.row 5 Ti] x = layout_Line_Text_T x.1 := by kernel_rfl
theorem layout_Line_Text_ok : FunOk Tryz.prog 13 layout_Line_Text_fun := evFun_ok mixed ctx0 (pc utf_Encode_ok (no_calls)) Tryz.func13 (by kernel_rfl) _ (fun x => congrArg Tr.run (layout_Line_Text_ev x)) (by kernel_rfl) (by kernel_rfl)
noncomputable def law25_Same_L4 (a0 : List Int) (b1 : List Int) (k5 : Int) : Tr (Lap (List Int × List Int × Int) (Sum Unit Bool)) :=
  .br (decide (k5 < (a0.length : Int))) (
    .bnd (idx a0 k5) fun x_1 =>
    .bnd (idx b1 k5) fun x_2 =>
    .br (x_1 != x_2) (
      .pure (.done (.inr false))) (
      .pure (.next (a0, b1, IntKind.i64.wrap (k5 + 1))))) (
    .pure (.done (.inl ())))
noncomputable def law25_Same_T (a0 : List Int) (b1 : List Int) : Tr Bool :=
  .br ((a0.length : Int) != (b1.length : Int)) (
    .pure false) (
    .alt (loopW (fun s => (law25_Same_L4 s.1 s.2.1 s.2.2).run) (a0, b1, 0)) (fun l_3 =>
      .pure true) (fun l_4 =>
      .pure l_4))
noncomputable def law25_Same_F (a0 : List Int) (b1 : List Int) : Option Bool := (law25_Same_T a0 b1).run
def law25_Same_L : List (Nat × LoopAnn) := [(4, { head := [.sv 0 false Te, .sv 1 false Te, .sv 5 true Th], xid := 0, out := [], hasRet := true, res := [.sv 4 true .bool] })]
noncomputable def law25_Same_C : List (Nat × Callee) := []
noncomputable def law25_Same_fun : Fun := ⟨[.sl Th, .sl Th], [.v .bool], fun x => law25_Same_F x.1 x.2.1⟩
theorem law25_Same_ev (x : Tys.I [.sl Th, .sl Th]) : evFun G0 (of_ law25_Same_C) A0 (ol_ law25_Same_L) Tryz.f14 [.sl Th, .sl Th] [.v .bool] x = law25_Same_T x.1 x.2.1 := by kernel_rfl
theorem law25_Same_ok : FunOk Tryz.prog 14 law25_Same_fun := evFun_ok mixed ctx0 (no_calls) Tryz.func14 (by kernel_rfl) _ (fun x => congrArg Tr.run (law25_Same_ev x)) (by kernel_rfl) (by kernel_rfl)
noncomputable def law30_awake_T : Tr Bool :=
  .bnd (layout_Of_F ([97, 98, 99]) 0 2) fun c_1 =>
  .bnd (utf_Encode_F ([1488, 40, 1489])) fun c_2 =>
  .bnd (layout_Of_F c_2 0 9) fun c_3 =>
  .br c_1.2.isSome (
    .pure false) (
    .br c_3.2.isSome (
      .pure false) (
      .bnd (idx ([c_1.1]) 0) fun x_4 =>
      .br ((x_4.2.2.2.2.length : Int) != 2) (
        .pure false) (
        .bnd (idx ([c_3.1]) 0) fun x_5 =>
        .br ((x_5.2.2.2.2.length : Int) != 1) (
          .pure false) (
          .bnd (idx ([c_1.1]) 0) fun x_6 =>
          .bnd (idx x_6.2.2.2.2 0) fun x_7 =>
          .bnd (layout_Line_Text_F x_7) fun c_8 =>
          .br ((strOfNums c_8).toList == (ByteArray.mk #[97, 98]).toList) (
            .bnd (idx ([c_1.1]) 0) fun x_9 =>
            .bnd (idx x_9.2.2.2.2 1) fun x_10 =>
            .bnd (layout_Line_Text_F x_10) fun c_11 =>
            .br ((strOfNums c_11).toList == (ByteArray.mk #[99]).toList) (
              .bnd (idx ([c_3.1]) 0) fun x_12 =>
              .bnd (idx x_12.2.2.2.2 0) fun x_13 =>
              .bnd (law25_Same_F x_13.2.2.1 ([2, 1, 0])) fun c_14 =>
              .br c_14 (
                .bnd (idx ([c_3.1]) 0) fun x_15 =>
                .bnd (idx x_15.2.2.2.2 0) fun x_16 =>
                .pure ((runesBytes x_16.2.2.2.2.1).toList == (runesBytes ([1489, 41, 1488])).toList)) (
                .pure false)) (
              .pure false)) (
            .pure false)))))
noncomputable def law30_awake_F : Option Bool := (law30_awake_T).run
def law30_awake_L : List (Nat × LoopAnn) := []
noncomputable def law30_awake_C : List (Nat × Callee) := [(11, .plain layout_Of_fun), (12, .plain utf_Encode_fun), (13, .plain layout_Line_Text_fun), (14, .plain law25_Same_fun)]
noncomputable def law30_awake_fun : Fun := ⟨[], [.v .bool], fun _ => law30_awake_F⟩
theorem law30_awake_ev (x : Tys.I []) : evFun G0 (of_ law30_awake_C) A0 (ol_ law30_awake_L) Tryz.f5 [] [.v .bool] x = law30_awake_T := by kernel_rfl
theorem law30_awake_ok : FunOk Tryz.prog 5 law30_awake_fun := evFun_ok mixed ctx0 (pc layout_Of_ok (pc utf_Encode_ok (pc layout_Line_Text_ok (pc law25_Same_ok (no_calls))))) Tryz.func5 (by kernel_rfl) _ (fun x => congrArg Tr.run (law30_awake_ev x)) (by kernel_rfl) (by kernel_rfl)
noncomputable def api_Place_F (x : Option (Int × ByteArray × Int)) : Option (ByteArray × Int) := some (match x with | none => (ByteArray.empty, 0) | some y => (y.2.1, y.2.2))
noncomputable def api_Place_fun : Fun := ⟨[.err 52 26], [.v .str, .v Th], fun x => api_Place_F x.1⟩
theorem api_Place_ok : FunOk Tryz.prog 18 api_Place_fun := place_ok
noncomputable def api_Number_F (x : Option (Int × ByteArray × Int)) : Option Int := some (match x with | none => 0 | some y => y.1)
noncomputable def api_Number_fun : Fun := ⟨[.err 52 26], [.v Th], fun x => api_Number_F x.1⟩
theorem api_Number_ok : FunOk Tryz.prog 19 api_Number_fun := number_ok
noncomputable def law02_Told_T (e0 : Option (Int × ByteArray × Int)) (want1 : Int) (where2 : ByteArray) (at3 : Int) : Tr Bool :=
  .br (want1 == 0) (
    .pure e0.isNone) (
    .bnd (api_Place_F e0) fun c_1 =>
    .bnd (api_Number_F e0) fun c_2 =>
    .br (c_2 == want1) (
      .br (c_1.1.toList == where2.toList) (
        .pure (c_1.2 == at3)) (
        .pure false)) (
      .pure false))
noncomputable def law02_Told_F (e0 : Option (Int × ByteArray × Int)) (want1 : Int) (where2 : ByteArray) (at3 : Int) : Option Bool := (law02_Told_T e0 want1 where2 at3).run
def law02_Told_L : List (Nat × LoopAnn) := []
noncomputable def law02_Told_C : List (Nat × Callee) := [(18, .plain api_Place_fun), (19, .plain api_Number_fun)]
noncomputable def law02_Told_fun : Fun := ⟨[.err 52 26, Th, .str, Th], [.v .bool], fun x => law02_Told_F x.1 x.2.1 x.2.2.1 x.2.2.2.1⟩
theorem law02_Told_ev (x : Tys.I [.err 52 26, Th, .str, Th]) : evFun G0 (of_ law02_Told_C) A0 (ol_ law02_Told_L) Tryz.f8 [.err 52 26, Th, .str, Th] [.v .bool] x = law02_Told_T x.1 x.2.1 x.2.2.1 x.2.2.2.1 := by kernel_rfl
theorem law02_Told_ok : FunOk Tryz.prog 8 law02_Told_fun := evFun_ok mixed ctx0 (pc api_Place_ok (pc api_Number_ok (no_calls))) Tryz.func8 (by kernel_rfl) _ (fun x => congrArg Tr.run (law02_Told_ev x)) (by kernel_rfl) (by kernel_rfl)
end Go.Proofs.YtnldcpanpojeiaaGreatDoor
