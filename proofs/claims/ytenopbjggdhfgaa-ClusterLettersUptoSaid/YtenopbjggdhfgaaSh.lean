/-
  The plain readings of the functions of this seat, by program; each is tied to the loaded function.
-/
import Derived.Test.YtenopbjggdhfgaaEvErr
import Derived.Test.YtenopbjggdhfgaaChecked
namespace Go.Proofs.Ytenopbjggdhfgaa
set_option maxRecDepth 100000
set_option linter.unusedVariables false

def G0 : Ctx := { ty := [(3, .int .i64), (4, .bool), (5, .int .u8), (9, .str), (21, .int .i32), (22, .sl (.int .i32)), (24, .sl .bool), (26, .sl (.st (.pair (.int .i64) (.int .i64)))), (29, .st (.pair (.int .i64) (.int .i64))), (33, .sl (.int .u8)), (36, .sl (.int .u8)), (38, .sl (.int .i64)), (40, .int .u8), (42, .st (.pair (.int .u8) (.pair .bool (.int .i64)))), (46, .sl (.st (.pair (.int .i32) (.pair (.int .i32) (.int .u8))))), (53, .sl (.st (.pair (.int .i32) (.pair (.int .i32) (.int .u8))))), (56, .st (.pair (.int .i32) (.pair (.int .i32) (.int .u8)))), (58, .st (.pair (.int .i32) (.pair (.int .i32) (.int .u8)))), (59, .sl (.st (.pair (.int .i32) (.pair (.int .i32) (.int .u8))))), (62, .st (.pair (.int .i32) (.pair (.int .i32) (.int .u8))))], sls := [(22, ⟨21, .int .i32, 35184372088832⟩), (24, ⟨4, .bool, 140737488355328⟩), (26, ⟨29, .st (.pair (.int .i64) (.int .i64)), 8796093022208⟩), (33, ⟨5, .int .u8, 140737488355328⟩), (36, ⟨40, .int .u8, 140737488355328⟩), (38, ⟨3, .int .i64, 17592186044416⟩), (46, ⟨58, .st (.pair (.int .i32) (.pair (.int .i32) (.int .u8))), 11728124029610⟩), (53, ⟨56, .st (.pair (.int .i32) (.pair (.int .i32) (.int .u8))), 11728124029610⟩), (59, ⟨62, .st (.pair (.int .i32) (.pair (.int .i32) (.int .u8))), 11728124029610⟩)], eqs := [], enos := [] }
theorem mixed : Try.prog.follows .mixedOrders = true := by kernel_rfl
theorem ctx0 : CtxOk Try.prog G0 := ctx_ok (by kernel_rfl)
theorem no_calls {Λ : List Nat} : ∀ f fa, olook f ([] : List (Nat × Callee)) = some fa → CalleeOk Try.prog f fa ∧ (fa.isPlain = false → inList f Λ = true) := fun _ _ h => by cases h
theorem cons_calls {Λ : List Nat} {k : Nat} {fb : Callee} {l : List (Nat × Callee)} (h : CalleeOk Try.prog k fb) (hi : fb.isPlain = false → inList k Λ = true) (hl : ∀ f fa, olook f l = some fa → CalleeOk Try.prog f fa ∧ (fa.isPlain = false → inList f Λ = true)) : ∀ f fa, olook f ((k, fb) :: l) = some fa → CalleeOk Try.prog f fa ∧ (fa.isPlain = false → inList f Λ = true) := by
  intro f fa hf
  rw [olook_cons] at hf
  split at hf
  · rename_i e; subst e; cases hf; exact ⟨h, hi⟩
  · exact hl f fa hf

/-! ### boustrophedon/linec.rows -/
noncomputable def linec_rows_T : Tr (List (Int × Int × Int)) :=
  .pure ([((0 : Int), (8 : Int), (3 : Int)), ((9 : Int), (9 : Int), (14 : Int)), ((10 : Int), (10 : Int), (7 : Int)), ((11 : Int), (12 : Int), (5 : Int)), ((13 : Int), (13 : Int), (6 : Int)), ((14 : Int), (31 : Int), (3 : Int)), ((32 : Int), (32 : Int), (9 : Int)), ((33 : Int), (33 : Int), (23 : Int)), ((34 : Int), (34 : Int), (22 : Int)), ((35 : Int), (35 : Int), (1 : Int)), ((36 : Int), (36 : Int), (29 : Int)), ((37 : Int), (37 : Int), (28 : Int)), ((38 : Int), (38 : Int), (1 : Int)), ((39 : Int), (39 : Int), (22 : Int)), ((40 : Int), (40 : Int), (21 : Int)), ((41 : Int), (41 : Int), (20 : Int)), ((42 : Int), (42 : Int), (1 : Int)), ((43 : Int), (43 : Int), (29 : Int)), ((44 : Int), (44 : Int), (25 : Int)), ((45 : Int), (45 : Int), (17 : Int)), ((46 : Int), (46 : Int), (25 : Int)), ((47 : Int), (47 : Int), (26 : Int)), ((48 : Int), (57 : Int), (27 : Int)), ((58 : Int), (59 : Int), (25 : Int)), ((60 : Int), (62 : Int), (1 : Int)), ((63 : Int), (63 : Int), (23 : Int)), ((64 : Int), (90 : Int), (1 : Int)), ((91 : Int), (91 : Int), (21 : Int)), ((92 : Int), (92 : Int), (29 : Int)), ((93 : Int), (93 : Int), (20 : Int)), ((94 : Int), (122 : Int), (1 : Int)), ((123 : Int), (123 : Int), (21 : Int)), ((124 : Int), (124 : Int), (14 : Int)), ((125 : Int), (125 : Int), (19 : Int)), ((126 : Int), (126 : Int), (1 : Int)), ((127 : Int), (132 : Int), (3 : Int)), ((133 : Int), (133 : Int), (8 : Int)), ((134 : Int), (159 : Int), (3 : Int)), ((160 : Int), (160 : Int), (12 : Int)), ((161 : Int), (161 : Int), (21 : Int)), ((162 : Int), (162 : Int), (28 : Int)), ((163 : Int), (165 : Int), (29 : Int)), ((166 : Int), (166 : Int), (1 : Int)), ((167 : Int), (168 : Int), (39 : Int)), ((169 : Int), (169 : Int), (1 : Int)), ((170 : Int), (170 : Int), (39 : Int)), ((171 : Int), (171 : Int), (22 : Int)), ((172 : Int), (172 : Int), (1 : Int)), ((173 : Int), (173 : Int), (14 : Int)), ((174 : Int), (175 : Int), (1 : Int)), ((176 : Int), (176 : Int), (28 : Int)), ((177 : Int), (177 : Int), (29 : Int)), ((178 : Int), (179 : Int), (39 : Int)), ((180 : Int), (180 : Int), (15 : Int)), ((181 : Int), (181 : Int), (1 : Int)), ((182 : Int), (186 : Int), (39 : Int)), ((187 : Int), (187 : Int), (22 : Int)), ((188 : Int), (190 : Int), (39 : Int)), ((191 : Int), (191 : Int), (21 : Int)), ((192 : Int), (214 : Int), (1 : Int)), ((215 : Int), (215 : Int), (39 : Int)), ((216 : Int), (246 : Int), (1 : Int)), ((247 : Int), (247 : Int), (39 : Int)), ((248 : Int), (710 : Int), (1 : Int)), ((712 : Int), (712 : Int), (15 : Int)), ((716 : Int), (716 : Int), (15 : Int)), ((735 : Int), (735 : Int), (15 : Int)), ((768 : Int), (846 : Int), (3 : Int)), ((847 : Int), (847 : Int), (12 : Int)), ((848 : Int), (859 : Int), (3 : Int)), ((860 : Int), (866 : Int), (12 : Int)), ((867 : Int), (879 : Int), (3 : Int)), ((880 : Int), (1154 : Int), (1 : Int)), ((1155 : Int), (1161 : Int), (3 : Int)), ((1162 : Int), (1416 : Int), (1 : Int)), ((1417 : Int), (1417 : Int), (25 : Int)), ((1418 : Int), (1418 : Int), (14 : Int)), ((1425 : Int), (1469 : Int), (3 : Int)), ((1470 : Int), (1470 : Int), (14 : Int)), ((1471 : Int), (1471 : Int), (3 : Int)), ((1473 : Int), (1474 : Int), (3 : Int)), ((1476 : Int), (1477 : Int), (3 : Int)), ((1478 : Int), (1478 : Int), (23 : Int)), ((1479 : Int), (1479 : Int), (3 : Int)), ((1488 : Int), (1522 : Int), (2 : Int)), ((1536 : Int), (1544 : Int), (1 : Int)), ((1545 : Int), (1547 : Int), (28 : Int)), ((1548 : Int), (1549 : Int), (25 : Int)), ((1550 : Int), (1551 : Int), (1 : Int)), ((1552 : Int), (1562 : Int), (3 : Int)), ((1563 : Int), (1563 : Int), (23 : Int)), ((1564 : Int), (1564 : Int), (3 : Int)), ((1565 : Int), (1567 : Int), (23 : Int)), ((1568 : Int), (1610 : Int), (1 : Int)), ((1611 : Int), (1631 : Int), (3 : Int)), ((1632 : Int), (1641 : Int), (27 : Int)), ((1642 : Int), (1642 : Int), (28 : Int)), ((1643 : Int), (1644 : Int), (27 : Int)), ((1645 : Int), (1647 : Int), (1 : Int)), ((1648 : Int), (1648 : Int), (3 : Int)), ((1649 : Int), (1747 : Int), (1 : Int)), ((1748 : Int), (1748 : Int), (23 : Int)), ((1749 : Int), (1749 : Int), (1 : Int)), ((1750 : Int), (1756 : Int), (3 : Int)), ((1757 : Int), (1757 : Int), (27 : Int)), ((1758 : Int), (1758 : Int), (1 : Int)), ((1759 : Int), (1764 : Int), (3 : Int)), ((1765 : Int), (1766 : Int), (1 : Int)), ((1767 : Int), (1768 : Int), (3 : Int)), ((1769 : Int), (1769 : Int), (1 : Int)), ((1770 : Int), (1773 : Int), (3 : Int)), ((1774 : Int), (1775 : Int), (1 : Int)), ((1776 : Int), (1785 : Int), (27 : Int)), ((1786 : Int), (1808 : Int), (1 : Int)), ((1809 : Int), (1809 : Int), (3 : Int)), ((1810 : Int), (1839 : Int), (1 : Int)), ((1840 : Int), (1866 : Int), (3 : Int)), ((1867 : Int), (1957 : Int), (1 : Int)), ((1958 : Int), (1968 : Int), (3 : Int)), ((2304 : Int), (2307 : Int), (3 : Int)), ((2308 : Int), (2361 : Int), (1 : Int)), ((2362 : Int), (2364 : Int), (3 : Int)), ((2365 : Int), (2365 : Int), (1 : Int)), ((2366 : Int), (2383 : Int), (3 : Int)), ((2392 : Int), (2401 : Int), (1 : Int)), ((2404 : Int), (2405 : Int), (14 : Int)), ((2406 : Int), (2415 : Int), (27 : Int)), ((3585 : Int), (3632 : Int), (40 : Int)), ((3633 : Int), (3633 : Int), (40 : Int)), ((3634 : Int), (3635 : Int), (40 : Int)), ((3636 : Int), (3642 : Int), (40 : Int)), ((3647 : Int), (3647 : Int), (29 : Int)), ((3648 : Int), (3662 : Int), (40 : Int)), ((3664 : Int), (3673 : Int), (27 : Int)), ((3674 : Int), (3675 : Int), (14 : Int)), ((4352 : Int), (4447 : Int), (34 : Int)), ((4448 : Int), (4519 : Int), (35 : Int)), ((4520 : Int), (4607 : Int), (36 : Int)), ((5760 : Int), (5760 : Int), (14 : Int)), ((8192 : Int), (8198 : Int), (14 : Int)), ((8199 : Int), (8199 : Int), (12 : Int)), ((8200 : Int), (8202 : Int), (14 : Int)), ((8203 : Int), (8203 : Int), (10 : Int)), ((8204 : Int), (8204 : Int), (3 : Int)), ((8205 : Int), (8205 : Int), (4 : Int)), ((8206 : Int), (8207 : Int), (3 : Int)), ((8208 : Int), (8208 : Int), (14 : Int)), ((8209 : Int), (8209 : Int), (12 : Int)), ((8210 : Int), (8211 : Int), (14 : Int)), ((8212 : Int), (8212 : Int), (16 : Int)), ((8213 : Int), (8214 : Int), (39 : Int)), ((8216 : Int), (8217 : Int), (22 : Int)), ((8218 : Int), (8218 : Int), (21 : Int)), ((8219 : Int), (8221 : Int), (22 : Int)), ((8222 : Int), (8222 : Int), (21 : Int)), ((8223 : Int), (8223 : Int), (22 : Int)), ((8224 : Int), (8225 : Int), (39 : Int)), ((8228 : Int), (8230 : Int), (24 : Int)), ((8231 : Int), (8231 : Int), (14 : Int)), ((8232 : Int), (8233 : Int), (5 : Int)), ((8234 : Int), (8238 : Int), (3 : Int)), ((8239 : Int), (8239 : Int), (12 : Int)), ((8240 : Int), (8247 : Int), (28 : Int)), ((8248 : Int), (8248 : Int), (1 : Int)), ((8249 : Int), (8250 : Int), (22 : Int)), ((8251 : Int), (8251 : Int), (39 : Int)), ((8252 : Int), (8253 : Int), (18 : Int)), ((8260 : Int), (8260 : Int), (25 : Int)), ((8261 : Int), (8261 : Int), (21 : Int)), ((8262 : Int), (8262 : Int), (19 : Int)), ((8263 : Int), (8265 : Int), (18 : Int)), ((8278 : Int), (8278 : Int), (14 : Int)), ((8280 : Int), (8283 : Int), (14 : Int)), ((8285 : Int), (8287 : Int), (14 : Int)), ((8288 : Int), (8288 : Int), (11 : Int)), ((8294 : Int), (8303 : Int), (3 : Int)), ((8317 : Int), (8317 : Int), (21 : Int)), ((8318 : Int), (8318 : Int), (19 : Int)), ((8333 : Int), (8333 : Int), (21 : Int)), ((8334 : Int), (8334 : Int), (19 : Int)), ((8352 : Int), (8358 : Int), (29 : Int)), ((8359 : Int), (8359 : Int), (28 : Int)), ((8360 : Int), (8373 : Int), (29 : Int)), ((8374 : Int), (8374 : Int), (28 : Int)), ((8375 : Int), (8399 : Int), (29 : Int)), ((8400 : Int), (8432 : Int), (3 : Int)), ((8451 : Int), (8451 : Int), (28 : Int)), ((8457 : Int), (8457 : Int), (28 : Int)), ((8470 : Int), (8470 : Int), (29 : Int)), ((8592 : Int), (8601 : Int), (39 : Int)), ((8722 : Int), (8723 : Int), (29 : Int)), ((8968 : Int), (8968 : Int), (21 : Int)), ((8969 : Int), (8969 : Int), (19 : Int)), ((8970 : Int), (8970 : Int), (21 : Int)), ((8971 : Int), (8971 : Int), (19 : Int)), ((8986 : Int), (8987 : Int), (30 : Int)), ((9001 : Int), (9001 : Int), (21 : Int)), ((9002 : Int), (9002 : Int), (19 : Int)), ((9200 : Int), (9203 : Int), (30 : Int)), ((9312 : Int), (9470 : Int), (39 : Int)), ((9472 : Int), (9547 : Int), (39 : Int)), ((9728 : Int), (9731 : Int), (30 : Int)), ((9748 : Int), (9749 : Int), (30 : Int)), ((9757 : Int), (9757 : Int), (31 : Int)), ((9785 : Int), (9787 : Int), (30 : Int)), ((9977 : Int), (9977 : Int), (31 : Int)), ((9994 : Int), (9997 : Int), (31 : Int)), ((10082 : Int), (10083 : Int), (23 : Int)), ((10084 : Int), (10084 : Int), (30 : Int)), ((10214 : Int), (10214 : Int), (21 : Int)), ((10215 : Int), (10215 : Int), (19 : Int)), ((10216 : Int), (10216 : Int), (21 : Int)), ((10217 : Int), (10217 : Int), (19 : Int)), ((10218 : Int), (10218 : Int), (21 : Int)), ((10219 : Int), (10219 : Int), (19 : Int)), ((10627 : Int), (10627 : Int), (21 : Int)), ((10628 : Int), (10628 : Int), (19 : Int)), ((11904 : Int), (12287 : Int), (30 : Int)), ((12288 : Int), (12288 : Int), (14 : Int)), ((12289 : Int), (12290 : Int), (19 : Int)), ((12291 : Int), (12292 : Int), (30 : Int)), ((12293 : Int), (12293 : Int), (18 : Int)), ((12294 : Int), (12295 : Int), (30 : Int)), ((12296 : Int), (12296 : Int), (21 : Int)), ((12297 : Int), (12297 : Int), (19 : Int)), ((12298 : Int), (12298 : Int), (21 : Int)), ((12299 : Int), (12299 : Int), (19 : Int)), ((12300 : Int), (12300 : Int), (21 : Int)), ((12301 : Int), (12301 : Int), (19 : Int)), ((12302 : Int), (12302 : Int), (21 : Int)), ((12303 : Int), (12303 : Int), (19 : Int)), ((12304 : Int), (12304 : Int), (21 : Int)), ((12305 : Int), (12305 : Int), (19 : Int)), ((12306 : Int), (12307 : Int), (30 : Int)), ((12308 : Int), (12308 : Int), (21 : Int)), ((12309 : Int), (12309 : Int), (19 : Int)), ((12310 : Int), (12310 : Int), (21 : Int)), ((12311 : Int), (12311 : Int), (19 : Int)), ((12316 : Int), (12316 : Int), (18 : Int)), ((12317 : Int), (12317 : Int), (21 : Int)), ((12318 : Int), (12319 : Int), (19 : Int)), ((12320 : Int), (12329 : Int), (30 : Int)), ((12330 : Int), (12335 : Int), (3 : Int)), ((12336 : Int), (12346 : Int), (30 : Int)), ((12347 : Int), (12348 : Int), (18 : Int)), ((12353 : Int), (12353 : Int), (42 : Int)), ((12354 : Int), (12354 : Int), (30 : Int)), ((12355 : Int), (12355 : Int), (42 : Int)), ((12356 : Int), (12356 : Int), (30 : Int)), ((12357 : Int), (12357 : Int), (42 : Int)), ((12358 : Int), (12358 : Int), (30 : Int)), ((12359 : Int), (12359 : Int), (42 : Int)), ((12360 : Int), (12360 : Int), (30 : Int)), ((12361 : Int), (12361 : Int), (42 : Int)), ((12362 : Int), (12386 : Int), (30 : Int)), ((12387 : Int), (12387 : Int), (42 : Int)), ((12388 : Int), (12418 : Int), (30 : Int)), ((12419 : Int), (12419 : Int), (42 : Int)), ((12420 : Int), (12420 : Int), (30 : Int)), ((12421 : Int), (12421 : Int), (42 : Int)), ((12422 : Int), (12422 : Int), (30 : Int)), ((12423 : Int), (12423 : Int), (42 : Int)), ((12424 : Int), (12440 : Int), (30 : Int)), ((12441 : Int), (12442 : Int), (3 : Int)), ((12443 : Int), (12446 : Int), (18 : Int)), ((12447 : Int), (12447 : Int), (30 : Int)), ((12448 : Int), (12448 : Int), (18 : Int)), ((12449 : Int), (12449 : Int), (42 : Int)), ((12450 : Int), (12482 : Int), (30 : Int)), ((12483 : Int), (12483 : Int), (42 : Int)), ((12484 : Int), (12538 : Int), (30 : Int)), ((12539 : Int), (12539 : Int), (18 : Int)), ((12540 : Int), (12540 : Int), (42 : Int)), ((12541 : Int), (12542 : Int), (18 : Int)), ((12543 : Int), (12543 : Int), (30 : Int)), ((12549 : Int), (19903 : Int), (30 : Int)), ((19968 : Int), (40980 : Int), (30 : Int)), ((40981 : Int), (40981 : Int), (18 : Int)), ((40982 : Int), (42191 : Int), (30 : Int)), ((55296 : Int), (57343 : Int), (41 : Int)), ((63744 : Int), (64255 : Int), (30 : Int)), ((64285 : Int), (64285 : Int), (2 : Int)), ((64286 : Int), (64286 : Int), (3 : Int)), ((64287 : Int), (64296 : Int), (2 : Int)), ((64297 : Int), (64297 : Int), (1 : Int)), ((64298 : Int), (64335 : Int), (2 : Int)), ((64336 : Int), (65019 : Int), (1 : Int)), ((65020 : Int), (65020 : Int), (28 : Int)), ((65024 : Int), (65039 : Int), (3 : Int)), ((65040 : Int), (65040 : Int), (25 : Int)), ((65043 : Int), (65044 : Int), (25 : Int)), ((65056 : Int), (65071 : Int), (3 : Int)), ((65136 : Int), (65276 : Int), (1 : Int)), ((65279 : Int), (65279 : Int), (11 : Int)), ((65281 : Int), (65281 : Int), (23 : Int)), ((65282 : Int), (65283 : Int), (30 : Int)), ((65284 : Int), (65284 : Int), (29 : Int)), ((65285 : Int), (65285 : Int), (28 : Int)), ((65288 : Int), (65288 : Int), (21 : Int)), ((65289 : Int), (65289 : Int), (19 : Int)), ((65292 : Int), (65292 : Int), (19 : Int)), ((65294 : Int), (65294 : Int), (19 : Int)), ((65296 : Int), (65305 : Int), (30 : Int)), ((65306 : Int), (65307 : Int), (18 : Int)), ((65311 : Int), (65311 : Int), (23 : Int)), ((65313 : Int), (65338 : Int), (30 : Int)), ((65339 : Int), (65339 : Int), (21 : Int)), ((65341 : Int), (65341 : Int), (19 : Int)), ((65345 : Int), (65370 : Int), (30 : Int)), ((65371 : Int), (65371 : Int), (21 : Int)), ((65373 : Int), (65373 : Int), (19 : Int)), ((65377 : Int), (65377 : Int), (19 : Int)), ((65378 : Int), (65378 : Int), (21 : Int)), ((65379 : Int), (65380 : Int), (19 : Int)), ((65532 : Int), (65532 : Int), (13 : Int)), ((65533 : Int), (65533 : Int), (39 : Int)), ((127462 : Int), (127487 : Int), (33 : Int)), ((127744 : Int), (127876 : Int), (30 : Int)), ((127877 : Int), (127877 : Int), (31 : Int)), ((127878 : Int), (127994 : Int), (30 : Int)), ((127995 : Int), (127999 : Int), (32 : Int)), ((128000 : Int), (128065 : Int), (30 : Int)), ((128066 : Int), (128067 : Int), (31 : Int)), ((128068 : Int), (128069 : Int), (30 : Int)), ((128070 : Int), (128080 : Int), (31 : Int)), ((128081 : Int), (128101 : Int), (30 : Int)), ((128102 : Int), (128120 : Int), (31 : Int)), ((128121 : Int), (129791 : Int), (30 : Int)), ((131072 : Int), (262141 : Int), (30 : Int)), ((917505 : Int), (917631 : Int), (3 : Int)), ((917760 : Int), (917999 : Int), (3 : Int))])
noncomputable def linec_rows_F : Option (List (Int × Int × Int)) := (linec_rows_T).run
def linec_rows_L : List (Nat × LoopAnn) := []
noncomputable def linec_rows_C : List (Nat × Callee) := []
noncomputable def linec_rows_fun : Fun := ⟨[], [.row 56 (.st (.pair (.int .i32) (.pair (.int .i32) (.int .u8))))], fun _ => linec_rows_F⟩
theorem linec_rows_ev (x : Tys.I []) : evFun G0 (fun f => olook f linec_rows_C) ⟨[], [], [], [], [], []⟩ (fun i => olook i linec_rows_L) Try.f25 [] [.row 56 (.st (.pair (.int .i32) (.pair (.int .i32) (.int .u8))))] x = linec_rows_T := by kernel_rfl
theorem linec_rows_ok : FunOk Try.prog 25 linec_rows_fun := evFun_ok mixed ctx0 (no_calls) Try.func25 (by kernel_rfl) _ (fun x => congrArg Tr.run (linec_rows_ev x)) (by kernel_rfl) (by kernel_rfl)
/-! ### boustrophedon/linec.Table -/
noncomputable def linec_Table_L4 (rs2 : List (Int × Int × Int)) (t9 : List (Int × Int × Int)) (t10 : Int) (t11 : Int) : Tr (Lap ((List (Int × Int × Int)) × (List (Int × Int × Int)) × Int × Int) (List (Int × Int × Int))) :=
  .br (decide (t11 < t10)) (
    .bnd (idx t9 t11) fun x_3 =>
    .bnd (idx ([x_3]) 0) fun x_4 =>
    .bnd (idx ([x_3]) 0) fun x_5 =>
    .bnd (idx ([x_3]) 0) fun x_6 =>
    .bnd (idx rs2 t11) fun x_7 =>
    .pure (.next (rs2.set (Int.toNat t11) (x_4.1, x_5.2.1, x_6.2.2), t9, t10, IntKind.i64.wrap (t11 + 1)))) (
    .pure (.done rs2))
noncomputable def linec_Table_T : Tr (List (Int × Int × Int)) :=
  .bnd linec_rows_F fun c_1 =>
  .bnd (mk 11728124029610 (0, (0, 0)) (c_1.length : Int)) fun r_2 =>
  .bnd (loopW (fun s => (linec_Table_L4 s.1 s.2.1 s.2.2.1 s.2.2.2).run) (r_2, c_1, (c_1.length : Int), 0)) fun l_8 =>
  .pure l_8
noncomputable def linec_Table_F : Option (List (Int × Int × Int)) := (linec_Table_T).run
def linec_Table_L : List (Nat × LoopAnn) := [(4, { head := [.srow 2 1000002 58 true (.st (.pair (.int .i32) (.pair (.int .i32) (.int .u8)))), .srow 9 1000009 56 true (.st (.pair (.int .i32) (.pair (.int .i32) (.int .u8)))), .sv 10 true (.int .i64), .sv 11 true (.int .i64)], xid := 0, out := [.srow 2 1000002 58 true (.st (.pair (.int .i32) (.pair (.int .i32) (.int .u8))))], hasRet := false, res := [] })]
noncomputable def linec_Table_C : List (Nat × Callee) := [(25, .plain linec_rows_fun)]
noncomputable def linec_Table_fun : Fun := ⟨[], [.row 58 (.st (.pair (.int .i32) (.pair (.int .i32) (.int .u8))))], fun _ => linec_Table_F⟩
theorem linec_Table_ev (x : Tys.I []) : evFun G0 (fun f => olook f linec_Table_C) ⟨[], [], [], [], [], []⟩ (fun i => olook i linec_Table_L) Try.f18 [] [.row 58 (.st (.pair (.int .i32) (.pair (.int .i32) (.int .u8))))] x = linec_Table_T := by kernel_rfl
theorem linec_Table_ok : FunOk Try.prog 18 linec_Table_fun := evFun_ok mixed ctx0 (cons_calls (fb := .plain linec_rows_fun) linec_rows_ok (fun h => by cases h) (no_calls)) Try.func18 (by kernel_rfl) _ (fun x => congrArg Tr.run (linec_Table_ev x)) (by kernel_rfl) (by kernel_rfl)
/-! ### boustrophedon/linec.syllable -/
noncomputable def linec_syllable_T (r0 : Int) : Tr Int :=
  .br (((IntKind.i32.wrap (r0 - 44032)).tmod 28) == 0) (
    .pure 37) (
    .pure 38)
noncomputable def linec_syllable_F (r0 : Int) : Option Int := (linec_syllable_T r0).run
def linec_syllable_L : List (Nat × LoopAnn) := []
noncomputable def linec_syllable_C : List (Nat × Callee) := []
noncomputable def linec_syllable_fun : Fun := ⟨[.int .i32], [.v (.int .u8)], fun x => linec_syllable_F x.1⟩
theorem linec_syllable_ev (x : Tys.I [.int .i32]) : evFun G0 (fun f => olook f linec_syllable_C) ⟨[], [], [], [], [], []⟩ (fun i => olook i linec_syllable_L) Try.f19 [.int .i32] [.v (.int .u8)] x = linec_syllable_T x.1 := by kernel_rfl
theorem linec_syllable_ok : FunOk Try.prog 19 linec_syllable_fun := evFun_ok mixed ctx0 (no_calls) Try.func19 (by kernel_rfl) _ (fun x => congrArg Tr.run (linec_syllable_ev x)) (by kernel_rfl) (by kernel_rfl)
/-! ### boustrophedon/ranges.Find -/
noncomputable def ranges_Find_L2 (rs0 : List (Int × Int × Int)) (r1 : Int) (other2 : Int) (from7 : Int) (to8 : Int) : Tr (Lap ((List (Int × Int × Int)) × Int × Int × Int × Int) (Sum Int Int)) :=
  .br (decide (from7 < to8)) (
    .bnd (idx rs0 (IntKind.i64.wrap ((IntKind.i64.wrap (from7 + to8)).tdiv 2))) fun x_1 =>
    .br (decide (r1 < x_1.1)) (
      .pure (.next (rs0, r1, other2, from7, IntKind.i64.wrap ((IntKind.i64.wrap (from7 + to8)).tdiv 2)))) (
      .bnd (idx rs0 (IntKind.i64.wrap ((IntKind.i64.wrap (from7 + to8)).tdiv 2))) fun x_2 =>
      .br (decide (r1 > x_2.2.1)) (
        .pure (.next (rs0, r1, other2, IntKind.i64.wrap ((IntKind.i64.wrap ((IntKind.i64.wrap (from7 + to8)).tdiv 2)) + 1), to8))) (
        .bnd (idx rs0 (IntKind.i64.wrap ((IntKind.i64.wrap (from7 + to8)).tdiv 2))) fun x_3 =>
        .pure (.done (.inr x_3.2.2))))) (
    .pure (.done (.inl other2)))
noncomputable def ranges_Find_T (rs0 : List (Int × Int × Int)) (r1 : Int) (other2 : Int) : Tr Int :=
  .alt (loopW (fun s => (ranges_Find_L2 s.1 s.2.1 s.2.2.1 s.2.2.2.1 s.2.2.2.2).run) (rs0, r1, other2, 0, (rs0.length : Int))) (fun l_4 =>
    .pure l_4) (fun l_5 =>
    .pure l_5)
noncomputable def ranges_Find_F (rs0 : List (Int × Int × Int)) (r1 : Int) (other2 : Int) : Option Int := (ranges_Find_T rs0 r1 other2).run
def ranges_Find_L : List (Nat × LoopAnn) := [(2, { head := [.sv 0 false (.sl (.st (.pair (.int .i32) (.pair (.int .i32) (.int .u8))))), .sv 1 false (.int .i32), .sv 2 false (.int .u8), .sv 7 true (.int .i64), .sv 8 true (.int .i64)], xid := 0, out := [.sv 2 false (.int .u8)], hasRet := true, res := [.sv 6 false (.int .u8)] })]
noncomputable def ranges_Find_C : List (Nat × Callee) := []
noncomputable def ranges_Find_fun : Fun := ⟨[.sl (.st (.pair (.int .i32) (.pair (.int .i32) (.int .u8)))), .int .i32, .int .u8], [.v (.int .u8)], fun x => ranges_Find_F x.1 x.2.1 x.2.2.1⟩
theorem ranges_Find_ev (x : Tys.I [.sl (.st (.pair (.int .i32) (.pair (.int .i32) (.int .u8)))), .int .i32, .int .u8]) : evFun G0 (fun f => olook f ranges_Find_C) ⟨[], [], [], [], [], []⟩ (fun i => olook i ranges_Find_L) Try.f20 [.sl (.st (.pair (.int .i32) (.pair (.int .i32) (.int .u8)))), .int .i32, .int .u8] [.v (.int .u8)] x = ranges_Find_T x.1 x.2.1 x.2.2.1 := by kernel_rfl
theorem ranges_Find_ok : FunOk Try.prog 20 ranges_Find_fun := evFun_ok mixed ctx0 (no_calls) Try.func20 (by kernel_rfl) _ (fun x => congrArg Tr.run (ranges_Find_ev x)) (by kernel_rfl) (by kernel_rfl)
/-! ### boustrophedon/linec.Of -/
noncomputable def linec_Of_L4 (table3 : List (Int × Int × Int)) (cs4 : List Int) (t11 : List Int) (t12 : Int) (t13 : Int) : Tr (Lap ((List (Int × Int × Int)) × List Int × List Int × Int × Int) (List Int)) :=
  .br (decide (t13 < t12)) (
    .bnd (idx t11 t13) fun x_3 =>
    .br (decide (44032 ≤ x_3)) (
      .br (decide (x_3 ≤ 55203)) (
        .bnd (linec_syllable_F x_3) fun c_4 =>
        .bnd (idx cs4 t13) fun x_5 =>
        .pure (.next (table3, cs4.set (Int.toNat t13) c_4, t11, t12, IntKind.i64.wrap (t13 + 1)))) (
        .bnd (ranges_Find_F table3 x_3 0) fun c_6 =>
        .bnd (idx cs4 t13) fun x_7 =>
        .pure (.next (table3, cs4.set (Int.toNat t13) c_6, t11, t12, IntKind.i64.wrap (t13 + 1))))) (
      .bnd (ranges_Find_F table3 x_3 0) fun c_8 =>
      .bnd (idx cs4 t13) fun x_9 =>
      .pure (.next (table3, cs4.set (Int.toNat t13) c_8, t11, t12, IntKind.i64.wrap (t13 + 1))))) (
    .pure (.done cs4))
noncomputable def linec_Of_T (rs0 : List Int) : Tr (List Int) :=
  .bnd linec_Table_F fun c_1 =>
  .bnd (mk 140737488355328 0 (rs0.length : Int)) fun r_2 =>
  .bnd (loopW (fun s => (linec_Of_L4 s.1 s.2.1 s.2.2.1 s.2.2.2.1 s.2.2.2.2).run) (c_1, r_2, rs0, (rs0.length : Int), 0)) fun l_10 =>
  .pure l_10
noncomputable def linec_Of_F (rs0 : List Int) : Option (List Int) := (linec_Of_T rs0).run
def linec_Of_L : List (Nat × LoopAnn) := [(4, { head := [.srow 3 1000003 58 true (.st (.pair (.int .i32) (.pair (.int .i32) (.int .u8)))), .srow 4 1000004 40 true (.int .u8), .sv 11 false (.sl (.int .i32)), .sv 12 true (.int .i64), .sv 13 true (.int .i64)], xid := 0, out := [.srow 4 1000004 40 true (.int .u8)], hasRet := false, res := [] })]
noncomputable def linec_Of_C : List (Nat × Callee) := [(18, .plain linec_Table_fun), (19, .plain linec_syllable_fun), (20, .plain ranges_Find_fun)]
noncomputable def linec_Of_fun : Fun := ⟨[.sl (.int .i32)], [.row 40 (.int .u8)], fun x => linec_Of_F x.1⟩
theorem linec_Of_ev (x : Tys.I [.sl (.int .i32)]) : evFun G0 (fun f => olook f linec_Of_C) ⟨[], [], [], [], [], []⟩ (fun i => olook i linec_Of_L) Try.f13 [.sl (.int .i32)] [.row 40 (.int .u8)] x = linec_Of_T x.1 := by kernel_rfl
theorem linec_Of_ok : FunOk Try.prog 13 linec_Of_fun := evFun_ok mixed ctx0 (cons_calls (fb := .plain linec_Table_fun) linec_Table_ok (fun h => by cases h) (cons_calls (fb := .plain linec_syllable_fun) linec_syllable_ok (fun h => by cases h) (cons_calls (fb := .plain ranges_Find_fun) ranges_Find_ok (fun h => by cases h) (no_calls)))) Try.func13 (by kernel_rfl) _ (fun x => congrArg Tr.run (linec_Of_ev x)) (by kernel_rfl) (by kernel_rfl)
/-! ### boustrophedon/cellw.rows -/
noncomputable def cellw_rows_T : Tr (List (Int × Int × Int)) :=
  .pure ([((0 : Int), (31 : Int), (0 : Int)), ((127 : Int), (159 : Int), (0 : Int)), ((173 : Int), (173 : Int), (0 : Int)), ((768 : Int), (879 : Int), (0 : Int)), ((1155 : Int), (1161 : Int), (0 : Int)), ((1425 : Int), (1469 : Int), (0 : Int)), ((1471 : Int), (1471 : Int), (0 : Int)), ((1473 : Int), (1474 : Int), (0 : Int)), ((1476 : Int), (1477 : Int), (0 : Int)), ((1479 : Int), (1479 : Int), (0 : Int)), ((1536 : Int), (1541 : Int), (0 : Int)), ((1552 : Int), (1562 : Int), (0 : Int)), ((1564 : Int), (1564 : Int), (0 : Int)), ((1611 : Int), (1631 : Int), (0 : Int)), ((1648 : Int), (1648 : Int), (0 : Int)), ((1750 : Int), (1757 : Int), (0 : Int)), ((1759 : Int), (1764 : Int), (0 : Int)), ((1767 : Int), (1768 : Int), (0 : Int)), ((1770 : Int), (1773 : Int), (0 : Int)), ((1809 : Int), (1809 : Int), (0 : Int)), ((1840 : Int), (1866 : Int), (0 : Int)), ((1958 : Int), (1968 : Int), (0 : Int)), ((2027 : Int), (2035 : Int), (0 : Int)), ((2250 : Int), (2306 : Int), (0 : Int)), ((2362 : Int), (2362 : Int), (0 : Int)), ((2364 : Int), (2364 : Int), (0 : Int)), ((2369 : Int), (2376 : Int), (0 : Int)), ((2381 : Int), (2381 : Int), (0 : Int)), ((3633 : Int), (3633 : Int), (0 : Int)), ((3636 : Int), (3642 : Int), (0 : Int)), ((3655 : Int), (3662 : Int), (0 : Int)), ((4352 : Int), (4447 : Int), (2 : Int)), ((4448 : Int), (4607 : Int), (0 : Int)), ((8203 : Int), (8207 : Int), (0 : Int)), ((8232 : Int), (8238 : Int), (0 : Int)), ((8288 : Int), (8303 : Int), (0 : Int)), ((8400 : Int), (8432 : Int), (0 : Int)), ((8986 : Int), (8987 : Int), (2 : Int)), ((9001 : Int), (9002 : Int), (2 : Int)), ((9200 : Int), (9200 : Int), (2 : Int)), ((9203 : Int), (9203 : Int), (2 : Int)), ((9748 : Int), (9749 : Int), (2 : Int)), ((11904 : Int), (12287 : Int), (2 : Int)), ((12288 : Int), (12329 : Int), (2 : Int)), ((12330 : Int), (12333 : Int), (0 : Int)), ((12334 : Int), (12350 : Int), (2 : Int)), ((12353 : Int), (12440 : Int), (2 : Int)), ((12441 : Int), (12442 : Int), (0 : Int)), ((12443 : Int), (13311 : Int), (2 : Int)), ((13312 : Int), (19903 : Int), (2 : Int)), ((19968 : Int), (42191 : Int), (2 : Int)), ((43360 : Int), (43391 : Int), (2 : Int)), ((44032 : Int), (55203 : Int), (2 : Int)), ((63744 : Int), (64255 : Int), (2 : Int)), ((64286 : Int), (64286 : Int), (0 : Int)), ((65024 : Int), (65039 : Int), (0 : Int)), ((65040 : Int), (65049 : Int), (2 : Int)), ((65056 : Int), (65071 : Int), (0 : Int)), ((65072 : Int), (65135 : Int), (2 : Int)), ((65279 : Int), (65279 : Int), (0 : Int)), ((65281 : Int), (65376 : Int), (2 : Int)), ((65504 : Int), (65510 : Int), (2 : Int)), ((127462 : Int), (127487 : Int), (1 : Int)), ((127744 : Int), (128591 : Int), (2 : Int)), ((128640 : Int), (128767 : Int), (2 : Int)), ((129280 : Int), (129791 : Int), (2 : Int)), ((131072 : Int), (262141 : Int), (2 : Int)), ((917505 : Int), (917631 : Int), (0 : Int)), ((917760 : Int), (917999 : Int), (0 : Int))])
noncomputable def cellw_rows_F : Option (List (Int × Int × Int)) := (cellw_rows_T).run
def cellw_rows_L : List (Nat × LoopAnn) := []
noncomputable def cellw_rows_C : List (Nat × Callee) := []
noncomputable def cellw_rows_fun : Fun := ⟨[], [.row 62 (.st (.pair (.int .i32) (.pair (.int .i32) (.int .u8))))], fun _ => cellw_rows_F⟩
theorem cellw_rows_ev (x : Tys.I []) : evFun G0 (fun f => olook f cellw_rows_C) ⟨[], [], [], [], [], []⟩ (fun i => olook i cellw_rows_L) Try.f26 [] [.row 62 (.st (.pair (.int .i32) (.pair (.int .i32) (.int .u8))))] x = cellw_rows_T := by kernel_rfl
theorem cellw_rows_ok : FunOk Try.prog 26 cellw_rows_fun := evFun_ok mixed ctx0 (no_calls) Try.func26 (by kernel_rfl) _ (fun x => congrArg Tr.run (cellw_rows_ev x)) (by kernel_rfl) (by kernel_rfl)
/-! ### boustrophedon/cellw.Table -/
noncomputable def cellw_Table_L4 (rs2 : List (Int × Int × Int)) (t9 : List (Int × Int × Int)) (t10 : Int) (t11 : Int) : Tr (Lap ((List (Int × Int × Int)) × (List (Int × Int × Int)) × Int × Int) (List (Int × Int × Int))) :=
  .br (decide (t11 < t10)) (
    .bnd (idx t9 t11) fun x_3 =>
    .bnd (idx ([x_3]) 0) fun x_4 =>
    .bnd (idx ([x_3]) 0) fun x_5 =>
    .bnd (idx ([x_3]) 0) fun x_6 =>
    .bnd (idx rs2 t11) fun x_7 =>
    .pure (.next (rs2.set (Int.toNat t11) (x_4.1, x_5.2.1, x_6.2.2), t9, t10, IntKind.i64.wrap (t11 + 1)))) (
    .pure (.done rs2))
noncomputable def cellw_Table_T : Tr (List (Int × Int × Int)) :=
  .bnd cellw_rows_F fun c_1 =>
  .bnd (mk 11728124029610 (0, (0, 0)) (c_1.length : Int)) fun r_2 =>
  .bnd (loopW (fun s => (cellw_Table_L4 s.1 s.2.1 s.2.2.1 s.2.2.2).run) (r_2, c_1, (c_1.length : Int), 0)) fun l_8 =>
  .pure l_8
noncomputable def cellw_Table_F : Option (List (Int × Int × Int)) := (cellw_Table_T).run
def cellw_Table_L : List (Nat × LoopAnn) := [(4, { head := [.srow 2 1000002 58 true (.st (.pair (.int .i32) (.pair (.int .i32) (.int .u8)))), .srow 9 1000009 62 true (.st (.pair (.int .i32) (.pair (.int .i32) (.int .u8)))), .sv 10 true (.int .i64), .sv 11 true (.int .i64)], xid := 0, out := [.srow 2 1000002 58 true (.st (.pair (.int .i32) (.pair (.int .i32) (.int .u8))))], hasRet := false, res := [] })]
noncomputable def cellw_Table_C : List (Nat × Callee) := [(26, .plain cellw_rows_fun)]
noncomputable def cellw_Table_fun : Fun := ⟨[], [.row 58 (.st (.pair (.int .i32) (.pair (.int .i32) (.int .u8))))], fun _ => cellw_Table_F⟩
theorem cellw_Table_ev (x : Tys.I []) : evFun G0 (fun f => olook f cellw_Table_C) ⟨[], [], [], [], [], []⟩ (fun i => olook i cellw_Table_L) Try.f21 [] [.row 58 (.st (.pair (.int .i32) (.pair (.int .i32) (.int .u8))))] x = cellw_Table_T := by kernel_rfl
theorem cellw_Table_ok : FunOk Try.prog 21 cellw_Table_fun := evFun_ok mixed ctx0 (cons_calls (fb := .plain cellw_rows_fun) cellw_rows_ok (fun h => by cases h) (no_calls)) Try.func21 (by kernel_rfl) _ (fun x => congrArg Tr.run (cellw_Table_ev x)) (by kernel_rfl) (by kernel_rfl)
/-! ### boustrophedon/cellw.Of -/
noncomputable def cellw_Of_L4 (table3 : List (Int × Int × Int)) (ws4 : List Int) (t11 : List Int) (t12 : Int) (t13 : Int) : Tr (Lap ((List (Int × Int × Int)) × List Int × List Int × Int × Int) (List Int)) :=
  .br (decide (t13 < t12)) (
    .bnd (idx t11 t13) fun x_3 =>
    .br (decide (0 ≤ x_3)) (
      .br (decide (x_3 ≤ 1114111)) (
        .bnd (ranges_Find_F table3 x_3 1) fun c_4 =>
        .bnd (idx ws4 t13) fun x_5 =>
        .pure (.next (table3, ws4.set (Int.toNat t13) (IntKind.i64.wrap c_4), t11, t12, IntKind.i64.wrap (t13 + 1)))) (
        .pure (.next (table3, ws4, t11, t12, IntKind.i64.wrap (t13 + 1))))) (
      .pure (.next (table3, ws4, t11, t12, IntKind.i64.wrap (t13 + 1))))) (
    .pure (.done ws4))
noncomputable def cellw_Of_T (rs0 : List Int) : Tr (List Int) :=
  .bnd cellw_Table_F fun c_1 =>
  .bnd (mk 17592186044416 0 (rs0.length : Int)) fun r_2 =>
  .bnd (loopW (fun s => (cellw_Of_L4 s.1 s.2.1 s.2.2.1 s.2.2.2.1 s.2.2.2.2).run) (c_1, r_2, rs0, (rs0.length : Int), 0)) fun l_6 =>
  .pure l_6
noncomputable def cellw_Of_F (rs0 : List Int) : Option (List Int) := (cellw_Of_T rs0).run
def cellw_Of_L : List (Nat × LoopAnn) := [(4, { head := [.srow 3 1000003 58 true (.st (.pair (.int .i32) (.pair (.int .i32) (.int .u8)))), .srow 4 1000004 3 true (.int .i64), .sv 11 false (.sl (.int .i32)), .sv 12 true (.int .i64), .sv 13 true (.int .i64)], xid := 0, out := [.srow 4 1000004 3 true (.int .i64)], hasRet := false, res := [] })]
noncomputable def cellw_Of_C : List (Nat × Callee) := [(21, .plain cellw_Table_fun), (20, .plain ranges_Find_fun)]
noncomputable def cellw_Of_fun : Fun := ⟨[.sl (.int .i32)], [.row 3 (.int .i64)], fun x => cellw_Of_F x.1⟩
theorem cellw_Of_ev (x : Tys.I [.sl (.int .i32)]) : evFun G0 (fun f => olook f cellw_Of_C) ⟨[], [], [], [], [], []⟩ (fun i => olook i cellw_Of_L) Try.f14 [.sl (.int .i32)] [.row 3 (.int .i64)] x = cellw_Of_T x.1 := by kernel_rfl
theorem cellw_Of_ok : FunOk Try.prog 14 cellw_Of_fun := evFun_ok mixed ctx0 (cons_calls (fb := .plain cellw_Table_fun) cellw_Table_ok (fun h => by cases h) (cons_calls (fb := .plain ranges_Find_fun) ranges_Find_ok (fun h => by cases h) (no_calls))) Try.func14 (by kernel_rfl) _ (fun x => congrArg Tr.run (cellw_Of_ev x)) (by kernel_rfl) (by kernel_rfl)
/-! ### boustrophedon/cluster.isMark -/
noncomputable def cluster_isMark_T (c0 : Int) (width1 : Int) : Tr Bool :=
  .br (c0 == 3) (
    .pure true) (
    .br (c0 == 4) (
      .pure true) (
      .br (c0 == 40) (
        .pure (width1 == 0)) (
        .pure false)))
noncomputable def cluster_isMark_F (c0 : Int) (width1 : Int) : Option Bool := (cluster_isMark_T c0 width1).run
def cluster_isMark_L : List (Nat × LoopAnn) := []
noncomputable def cluster_isMark_C : List (Nat × Callee) := []
noncomputable def cluster_isMark_fun : Fun := ⟨[.int .u8, .int .i64], [.v .bool], fun x => cluster_isMark_F x.1 x.2.1⟩
theorem cluster_isMark_ev (x : Tys.I [.int .u8, .int .i64]) : evFun G0 (fun f => olook f cluster_isMark_C) ⟨[], [], [], [], [], []⟩ (fun i => olook i cluster_isMark_L) Try.f15 [.int .u8, .int .i64] [.v .bool] x = cluster_isMark_T x.1 x.2.1 := by kernel_rfl
theorem cluster_isMark_ok : FunOk Try.prog 15 cluster_isMark_fun := evFun_ok mixed ctx0 (no_calls) Try.func15 (by kernel_rfl) _ (fun x => congrArg Tr.run (cluster_isMark_ev x)) (by kernel_rfl) (by kernel_rfl)
/-! ### boustrophedon/cluster.control -/
noncomputable def cluster_control_T (c0 : Int) : Tr Bool :=
  .br (c0 == 6) (
    .pure true) (
    .br (c0 == 7) (
      .pure true) (
      .br (c0 == 5) (
        .pure true) (
        .br (c0 == 8) (
          .pure true) (
          .br (c0 == 10) (
            .pure true) (
            .pure false)))))
noncomputable def cluster_control_F (c0 : Int) : Option Bool := (cluster_control_T c0).run
def cluster_control_L : List (Nat × LoopAnn) := []
noncomputable def cluster_control_C : List (Nat × Callee) := []
noncomputable def cluster_control_fun : Fun := ⟨[.int .u8], [.v .bool], fun x => cluster_control_F x.1⟩
theorem cluster_control_ev (x : Tys.I [.int .u8]) : evFun G0 (fun f => olook f cluster_control_C) ⟨[], [], [], [], [], []⟩ (fun i => olook i cluster_control_L) Try.f22 [.int .u8] [.v .bool] x = cluster_control_T x.1 := by kernel_rfl
theorem cluster_control_ok : FunOk Try.prog 22 cluster_control_fun := evFun_ok mixed ctx0 (no_calls) Try.func22 (by kernel_rfl) _ (fun x => congrArg Tr.run (cluster_control_ev x)) (by kernel_rfl) (by kernel_rfl)
/-! ### boustrophedon/cluster.pictograph -/
noncomputable def cluster_pictograph_T (c0 : Int) : Tr Bool :=
  .br (c0 == 30) (
    .pure true) (
    .br (c0 == 31) (
      .pure true) (
      .pure (c0 == 32)))
noncomputable def cluster_pictograph_F (c0 : Int) : Option Bool := (cluster_pictograph_T c0).run
def cluster_pictograph_L : List (Nat × LoopAnn) := []
noncomputable def cluster_pictograph_C : List (Nat × Callee) := []
noncomputable def cluster_pictograph_fun : Fun := ⟨[.int .u8], [.v .bool], fun x => cluster_pictograph_F x.1⟩
theorem cluster_pictograph_ev (x : Tys.I [.int .u8]) : evFun G0 (fun f => olook f cluster_pictograph_C) ⟨[], [], [], [], [], []⟩ (fun i => olook i cluster_pictograph_L) Try.f23 [.int .u8] [.v .bool] x = cluster_pictograph_T x.1 := by kernel_rfl
theorem cluster_pictograph_ok : FunOk Try.prog 23 cluster_pictograph_fun := evFun_ok mixed ctx0 (no_calls) Try.func23 (by kernel_rfl) _ (fun x => congrArg Tr.run (cluster_pictograph_ev x)) (by kernel_rfl) (by kernel_rfl)
/-! ### boustrophedon/cluster.builds -/
noncomputable def cluster_builds_T (a0 : Int) (c1 : Int) : Tr Bool :=
  .br (a0 == 34) (
    .br (c1 == 34) (
      .pure true) (
      .br (c1 == 35) (
        .pure true) (
        .br (c1 == 37) (
          .pure true) (
          .pure (c1 == 38))))) (
    .br (a0 == 35) (
      .br (c1 == 35) (
        .pure true) (
        .pure (c1 == 36))) (
      .br (a0 == 37) (
        .br (c1 == 35) (
          .pure true) (
          .pure (c1 == 36))) (
        .br (a0 == 36) (
          .pure (c1 == 36)) (
          .br (a0 == 38) (
            .pure (c1 == 36)) (
            .pure false)))))
noncomputable def cluster_builds_F (a0 : Int) (c1 : Int) : Option Bool := (cluster_builds_T a0 c1).run
def cluster_builds_L : List (Nat × LoopAnn) := []
noncomputable def cluster_builds_C : List (Nat × Callee) := []
noncomputable def cluster_builds_fun : Fun := ⟨[.int .u8, .int .u8], [.v .bool], fun x => cluster_builds_F x.1 x.2.1⟩
theorem cluster_builds_ev (x : Tys.I [.int .u8, .int .u8]) : evFun G0 (fun f => olook f cluster_builds_C) ⟨[], [], [], [], [], []⟩ (fun i => olook i cluster_builds_L) Try.f24 [.int .u8, .int .u8] [.v .bool] x = cluster_builds_T x.1 x.2.1 := by kernel_rfl
theorem cluster_builds_ok : FunOk Try.prog 24 cluster_builds_fun := evFun_ok mixed ctx0 (no_calls) Try.func24 (by kernel_rfl) _ (fun x => congrArg Tr.run (cluster_builds_ev x)) (by kernel_rfl) (by kernel_rfl)
/-! ### (*boustrophedon/cluster.past).parts -/
noncomputable def cluster_past_parts_T (p0 : Int × Bool × Int) (c1 : Int) (mark2 : Bool) : Tr ((Int × Bool × Int) × Bool) :=
  .bnd (idx ([p0]) 0) fun x_1 =>
  .br (x_1.1 == 6) (
    .br (c1 == 7) (
      .pure (p0, false)) (
      .bnd (idx ([p0]) 0) fun x_2 =>
      .bnd (cluster_control_F x_2.1) fun c_3 =>
      .br c_3 (
        .pure (p0, true)) (
        .bnd (cluster_control_F c1) fun c_4 =>
        .br c_4 (
          .pure (p0, true)) (
          .br mark2 (
            .pure (p0, false)) (
            .bnd (cluster_pictograph_F c1) fun c_5 =>
            .br c_5 (
              .bnd (idx ([p0]) 0) fun x_6 =>
              .br (x_6.1 == 4) (
                .bnd (idx ([p0]) 0) fun x_7 =>
                .br x_7.2.1 (
                  .pure (p0, false)) (
                  .br (c1 == 33) (
                    .bnd (idx ([p0]) 0) fun x_8 =>
                    .br (x_8.2.2 == 1) (
                      .pure (p0, false)) (
                      .bnd (idx ([p0]) 0) fun x_9 =>
                      .bnd (cluster_builds_F x_9.1 c1) fun c_10 =>
                      .pure (p0, !c_10))) (
                    .bnd (idx ([p0]) 0) fun x_11 =>
                    .bnd (cluster_builds_F x_11.1 c1) fun c_12 =>
                    .pure (p0, !c_12)))) (
                .br (c1 == 33) (
                  .bnd (idx ([p0]) 0) fun x_13 =>
                  .br (x_13.2.2 == 1) (
                    .pure (p0, false)) (
                    .bnd (idx ([p0]) 0) fun x_14 =>
                    .bnd (cluster_builds_F x_14.1 c1) fun c_15 =>
                    .pure (p0, !c_15))) (
                  .bnd (idx ([p0]) 0) fun x_16 =>
                  .bnd (cluster_builds_F x_16.1 c1) fun c_17 =>
                  .pure (p0, !c_17)))) (
              .br (c1 == 33) (
                .bnd (idx ([p0]) 0) fun x_18 =>
                .br (x_18.2.2 == 1) (
                  .pure (p0, false)) (
                  .bnd (idx ([p0]) 0) fun x_19 =>
                  .bnd (cluster_builds_F x_19.1 c1) fun c_20 =>
                  .pure (p0, !c_20))) (
                .bnd (idx ([p0]) 0) fun x_21 =>
                .bnd (cluster_builds_F x_21.1 c1) fun c_22 =>
                .pure (p0, !c_22)))))))) (
    .bnd (idx ([p0]) 0) fun x_23 =>
    .bnd (cluster_control_F x_23.1) fun c_24 =>
    .br c_24 (
      .pure (p0, true)) (
      .bnd (cluster_control_F c1) fun c_25 =>
      .br c_25 (
        .pure (p0, true)) (
        .br mark2 (
          .pure (p0, false)) (
          .bnd (cluster_pictograph_F c1) fun c_26 =>
          .br c_26 (
            .bnd (idx ([p0]) 0) fun x_27 =>
            .br (x_27.1 == 4) (
              .bnd (idx ([p0]) 0) fun x_28 =>
              .br x_28.2.1 (
                .pure (p0, false)) (
                .br (c1 == 33) (
                  .bnd (idx ([p0]) 0) fun x_29 =>
                  .br (x_29.2.2 == 1) (
                    .pure (p0, false)) (
                    .bnd (idx ([p0]) 0) fun x_30 =>
                    .bnd (cluster_builds_F x_30.1 c1) fun c_31 =>
                    .pure (p0, !c_31))) (
                  .bnd (idx ([p0]) 0) fun x_32 =>
                  .bnd (cluster_builds_F x_32.1 c1) fun c_33 =>
                  .pure (p0, !c_33)))) (
              .br (c1 == 33) (
                .bnd (idx ([p0]) 0) fun x_34 =>
                .br (x_34.2.2 == 1) (
                  .pure (p0, false)) (
                  .bnd (idx ([p0]) 0) fun x_35 =>
                  .bnd (cluster_builds_F x_35.1 c1) fun c_36 =>
                  .pure (p0, !c_36))) (
                .bnd (idx ([p0]) 0) fun x_37 =>
                .bnd (cluster_builds_F x_37.1 c1) fun c_38 =>
                .pure (p0, !c_38)))) (
            .br (c1 == 33) (
              .bnd (idx ([p0]) 0) fun x_39 =>
              .br (x_39.2.2 == 1) (
                .pure (p0, false)) (
                .bnd (idx ([p0]) 0) fun x_40 =>
                .bnd (cluster_builds_F x_40.1 c1) fun c_41 =>
                .pure (p0, !c_41))) (
              .bnd (idx ([p0]) 0) fun x_42 =>
              .bnd (cluster_builds_F x_42.1 c1) fun c_43 =>
              .pure (p0, !c_43)))))))
noncomputable def cluster_past_parts_F (p0 : Int × Bool × Int) (c1 : Int) (mark2 : Bool) : Option ((Int × Bool × Int) × Bool) := (cluster_past_parts_T p0 c1 mark2).run
def cluster_past_parts_L : List (Nat × LoopAnn) := []
noncomputable def cluster_past_parts_C : List (Nat × Callee) := [(22, .plain cluster_control_fun), (23, .plain cluster_pictograph_fun), (24, .plain cluster_builds_fun)]
noncomputable def cluster_past_parts_fun : BFun := ⟨42, (.st (.pair (.int .u8) (.pair .bool (.int .i64)))), [.int .u8, .bool], [.v .bool], fun s x => cluster_past_parts_F s x.1 x.2.1⟩
theorem cluster_past_parts_ev (s : Int × Bool × Int) (x : Tys.I [.int .u8, .bool]) : evFunB G0 (fun f => olook f cluster_past_parts_C) ⟨[], [], [], [], [], []⟩ (fun i => olook i cluster_past_parts_L) Try.f16 42 (.st (.pair (.int .u8) (.pair .bool (.int .i64)))) [.int .u8, .bool] [.v .bool] s x = cluster_past_parts_T s x.1 x.2.1 := by kernel_rfl
theorem cluster_past_parts_ok : BoxOk Try.prog 16 cluster_past_parts_fun := evFunB_ok mixed ctx0 (cons_calls (fb := .plain cluster_control_fun) cluster_control_ok (fun h => by cases h) (cons_calls (fb := .plain cluster_pictograph_fun) cluster_pictograph_ok (fun h => by cases h) (cons_calls (fb := .plain cluster_builds_fun) cluster_builds_ok (fun h => by cases h) (no_calls)))) Try.func16 (by kernel_rfl) rfl _ (fun s x => congrArg Tr.run (cluster_past_parts_ev s x)) (by kernel_rfl)
/-! ### (*boustrophedon/cluster.past).add -/
noncomputable def cluster_past_add_T (p0 : Int × Bool × Int) (c1 : Int) (mark2 : Bool) (broken3 : Bool) : Tr ((Int × Bool × Int) × Unit) :=
  .br broken3 (
    .bnd (idx ([p0]) 0) fun x_1 =>
    .br (c1 == 33) (
      .bnd (idx ([(x_1.1, x_1.2.1, (0 : Int))]) 0) fun x_2 =>
      .bnd (idx ([(x_1.1, x_1.2.1, (0 : Int))]) 0) fun x_3 =>
      .bnd (idx ([(x_3.1, x_3.2.1, IntKind.i64.wrap (x_2.2.2 + 1))]) 0) fun x_4 =>
      .bnd (cluster_pictograph_F c1) fun c_5 =>
      .br c_5 (
        .bnd (idx ([(c1, x_4.2)]) 0) fun x_6 =>
        .pure ((x_6.1, true, x_6.2.2), ())) (
        .bnd (idx ([(c1, x_4.2)]) 0) fun x_7 =>
        .br x_7.2.1 (
          .br mark2 (
            .bnd (idx ([(c1, x_4.2)]) 0) fun x_8 =>
            .pure ((x_8.1, !broken3, x_8.2.2), ())) (
            .bnd (idx ([(c1, x_4.2)]) 0) fun x_9 =>
            .pure ((x_9.1, false, x_9.2.2), ()))) (
          .bnd (idx ([(c1, x_4.2)]) 0) fun x_10 =>
          .pure ((x_10.1, false, x_10.2.2), ())))) (
      .bnd (idx ([(x_1.1, x_1.2.1, (0 : Int))]) 0) fun x_11 =>
      .bnd (cluster_pictograph_F c1) fun c_12 =>
      .br c_12 (
        .bnd (idx ([(c1, x_11.2)]) 0) fun x_13 =>
        .pure ((x_13.1, true, x_13.2.2), ())) (
        .bnd (idx ([(c1, x_11.2)]) 0) fun x_14 =>
        .br x_14.2.1 (
          .br mark2 (
            .bnd (idx ([(c1, x_11.2)]) 0) fun x_15 =>
            .pure ((x_15.1, !broken3, x_15.2.2), ())) (
            .bnd (idx ([(c1, x_11.2)]) 0) fun x_16 =>
            .pure ((x_16.1, false, x_16.2.2), ()))) (
          .bnd (idx ([(c1, x_11.2)]) 0) fun x_17 =>
          .pure ((x_17.1, false, x_17.2.2), ()))))) (
    .br (c1 == 33) (
      .bnd (idx ([p0]) 0) fun x_18 =>
      .bnd (idx ([p0]) 0) fun x_19 =>
      .bnd (idx ([(x_19.1, x_19.2.1, IntKind.i64.wrap (x_18.2.2 + 1))]) 0) fun x_20 =>
      .bnd (cluster_pictograph_F c1) fun c_21 =>
      .br c_21 (
        .bnd (idx ([(c1, x_20.2)]) 0) fun x_22 =>
        .pure ((x_22.1, true, x_22.2.2), ())) (
        .bnd (idx ([(c1, x_20.2)]) 0) fun x_23 =>
        .br x_23.2.1 (
          .br mark2 (
            .bnd (idx ([(c1, x_20.2)]) 0) fun x_24 =>
            .pure ((x_24.1, !broken3, x_24.2.2), ())) (
            .bnd (idx ([(c1, x_20.2)]) 0) fun x_25 =>
            .pure ((x_25.1, false, x_25.2.2), ()))) (
          .bnd (idx ([(c1, x_20.2)]) 0) fun x_26 =>
          .pure ((x_26.1, false, x_26.2.2), ())))) (
      .bnd (idx ([p0]) 0) fun x_27 =>
      .bnd (cluster_pictograph_F c1) fun c_28 =>
      .br c_28 (
        .bnd (idx ([(c1, x_27.2)]) 0) fun x_29 =>
        .pure ((x_29.1, true, x_29.2.2), ())) (
        .bnd (idx ([(c1, x_27.2)]) 0) fun x_30 =>
        .br x_30.2.1 (
          .br mark2 (
            .bnd (idx ([(c1, x_27.2)]) 0) fun x_31 =>
            .pure ((x_31.1, !broken3, x_31.2.2), ())) (
            .bnd (idx ([(c1, x_27.2)]) 0) fun x_32 =>
            .pure ((x_32.1, false, x_32.2.2), ()))) (
          .bnd (idx ([(c1, x_27.2)]) 0) fun x_33 =>
          .pure ((x_33.1, false, x_33.2.2), ())))))
noncomputable def cluster_past_add_F (p0 : Int × Bool × Int) (c1 : Int) (mark2 : Bool) (broken3 : Bool) : Option ((Int × Bool × Int) × Unit) := (cluster_past_add_T p0 c1 mark2 broken3).run
def cluster_past_add_L : List (Nat × LoopAnn) := []
noncomputable def cluster_past_add_C : List (Nat × Callee) := [(23, .plain cluster_pictograph_fun)]
noncomputable def cluster_past_add_fun : BFun := ⟨42, (.st (.pair (.int .u8) (.pair .bool (.int .i64)))), [.int .u8, .bool, .bool], [], fun s x => cluster_past_add_F s x.1 x.2.1 x.2.2.1⟩
theorem cluster_past_add_ev (s : Int × Bool × Int) (x : Tys.I [.int .u8, .bool, .bool]) : evFunB G0 (fun f => olook f cluster_past_add_C) ⟨[], [], [], [], [], []⟩ (fun i => olook i cluster_past_add_L) Try.f17 42 (.st (.pair (.int .u8) (.pair .bool (.int .i64)))) [.int .u8, .bool, .bool] [] s x = cluster_past_add_T s x.1 x.2.1 x.2.2.1 := by kernel_rfl
theorem cluster_past_add_ok : BoxOk Try.prog 17 cluster_past_add_fun := evFunB_ok mixed ctx0 (cons_calls (fb := .plain cluster_pictograph_fun) cluster_pictograph_ok (fun h => by cases h) (no_calls)) Try.func17 (by kernel_rfl) rfl _ (fun s x => congrArg Tr.run (cluster_past_add_ev s x)) (by kernel_rfl)
/-! ### boustrophedon/cluster.Breaks -/
noncomputable def cluster_Breaks_L6 (breaks3 : List Bool) (ws5 : List Int) (p6 : Int × Bool × Int) (t24 : List Int) (t25 : Int) (t26 : Int) : Tr (Lap (List Bool × List Int × (Int × Bool × Int) × List Int × Int × Int) (List Bool)) :=
  .br (decide (t26 < t25)) (
    .bnd (idx t24 t26) fun x_6 =>
    .bnd (idx ws5 t26) fun x_7 =>
    .bnd (cluster_isMark_F x_6 x_7) fun c_8 =>
    .br (decide (t26 > 0)) (
      .bnd (idx ([p6]) 0) fun x_9 =>
      .bnd (cluster_past_parts_F x_9 x_6 c_8) fun c_10 =>
      .bnd (idx breaks3 t26) fun x_11 =>
      .bnd (idx (breaks3.set (Int.toNat t26) c_10.2) t26) fun x_12 =>
      .bnd (idx ([c_10.1]) 0) fun x_13 =>
      .bnd (cluster_past_add_F x_13 x_6 c_8 x_12) fun c_14 =>
      .pure (.next (breaks3.set (Int.toNat t26) c_10.2, ws5, c_14.1, t24, t25, IntKind.i64.wrap (t26 + 1)))) (
      .bnd (idx breaks3 t26) fun x_15 =>
      .bnd (idx ([p6]) 0) fun x_16 =>
      .bnd (cluster_past_add_F x_16 x_6 c_8 x_15) fun c_17 =>
      .pure (.next (breaks3, ws5, c_17.1, t24, t25, IntKind.i64.wrap (t26 + 1))))) (
    .pure (.done breaks3))
noncomputable def cluster_Breaks_T (rs0 : List Int) : Tr (List Bool) :=
  .bnd (mk 140737488355328 false (IntKind.i64.wrap ((rs0.length : Int) + 1))) fun r_1 =>
  .bnd (idx r_1 0) fun x_2 =>
  .bnd (idx (r_1.set (Int.toNat 0) true) (rs0.length : Int)) fun x_3 =>
  .bnd (linec_Of_F rs0) fun c_4 =>
  .bnd (cellw_Of_F rs0) fun c_5 =>
  .bnd (loopW (fun s => (cluster_Breaks_L6 s.1 s.2.1 s.2.2.1 s.2.2.2.1 s.2.2.2.2.1 s.2.2.2.2.2).run) ((r_1.set (Int.toNat 0) true).set (Int.toNat (rs0.length : Int)) true, c_5, (0, false, 0), c_4, (c_4.length : Int), 0)) fun l_18 =>
  .pure l_18
noncomputable def cluster_Breaks_F (rs0 : List Int) : Option (List Bool) := (cluster_Breaks_T rs0).run
def cluster_Breaks_L : List (Nat × LoopAnn) := [(6, { head := [.srow 3 1000003 4 true .bool, .srow 5 1000005 3 true (.int .i64), .sbox 6 1000006 42 true (.st (.pair (.int .u8) (.pair .bool (.int .i64)))), .srow 24 1000024 40 true (.int .u8), .sv 25 true (.int .i64), .sv 26 true (.int .i64)], xid := 0, out := [.srow 3 1000003 4 true .bool], hasRet := false, res := [] })]
noncomputable def cluster_Breaks_C : List (Nat × Callee) := [(13, .plain linec_Of_fun), (14, .plain cellw_Of_fun), (15, .plain cluster_isMark_fun), (16, .lbox cluster_past_parts_fun), (17, .lbox cluster_past_add_fun)]
noncomputable def cluster_Breaks_fun : Fun := ⟨[.sl (.int .i32)], [.row 4 .bool], fun x => cluster_Breaks_F x.1⟩
theorem cluster_Breaks_ev (x : Tys.I [.sl (.int .i32)]) : evFun G0 (fun f => olook f cluster_Breaks_C) ⟨[], [], [16, 17], [], [], []⟩ (fun i => olook i cluster_Breaks_L) Try.f8 [.sl (.int .i32)] [.row 4 .bool] x = cluster_Breaks_T x.1 := by kernel_rfl
theorem cluster_Breaks_ok : FunOk Try.prog 8 cluster_Breaks_fun := evFun_ok mixed ctx0 (cons_calls (fb := .plain linec_Of_fun) linec_Of_ok (fun h => by cases h) (cons_calls (fb := .plain cellw_Of_fun) cellw_Of_ok (fun h => by cases h) (cons_calls (fb := .plain cluster_isMark_fun) cluster_isMark_ok (fun h => by cases h) (cons_calls (fb := .lbox cluster_past_parts_fun) cluster_past_parts_ok (fun h => by rfl) (cons_calls (fb := .lbox cluster_past_add_fun) cluster_past_add_ok (fun h => by rfl) (no_calls)))))) Try.func8 (by kernel_rfl) _ (fun x => congrArg Tr.run (cluster_Breaks_ev x)) (by kernel_rfl) (by kernel_rfl)
/-! ### boustrophedon/boustrophedonlaw31.text -/
noncomputable def law31_text_L3 (s3 : ByteArray) (t6 : List Bool) (t7 : Int) (t8 : Int) : Tr (Lap (ByteArray × List Bool × Int × Int) ByteArray) :=
  .br (decide (t8 < t7)) (
    .bnd (idx t6 t8) fun x_1 =>
    .br x_1 (
      .br (decide (s3.size + (ByteArray.mk #[49]).size ≤ 9223372036854775807)) (
        .pure (.next (s3 ++ (ByteArray.mk #[49]), t6, t7, IntKind.i64.wrap (t8 + 1)))) (
        .fail)) (
      .br (decide (s3.size + (ByteArray.mk #[48]).size ≤ 9223372036854775807)) (
        .pure (.next (s3 ++ (ByteArray.mk #[48]), t6, t7, IntKind.i64.wrap (t8 + 1)))) (
        .fail))) (
    .pure (.done s3))
noncomputable def law31_text_T (bs0 : List Bool) : Tr ByteArray :=
  .bnd (loopW (fun s => (law31_text_L3 s.1 s.2.1 s.2.2.1 s.2.2.2).run) ((ByteArray.mk #[]), bs0, (bs0.length : Int), 0)) fun l_2 =>
  .pure l_2
noncomputable def law31_text_F (bs0 : List Bool) : Option ByteArray := (law31_text_T bs0).run
def law31_text_L : List (Nat × LoopAnn) := [(3, { head := [.sv 3 true .str, .sv 6 false (.sl .bool), .sv 7 true (.int .i64), .sv 8 true (.int .i64)], xid := 0, out := [.sv 3 true .str], hasRet := false, res := [] })]
noncomputable def law31_text_C : List (Nat × Callee) := []
noncomputable def law31_text_fun : Fun := ⟨[.sl .bool], [.v .str], fun x => law31_text_F x.1⟩
theorem law31_text_ev (x : Tys.I [.sl .bool]) : evFun G0 (fun f => olook f law31_text_C) ⟨[], [], [], [], [], []⟩ (fun i => olook i law31_text_L) Try.f12 [.sl .bool] [.v .str] x = law31_text_T x.1 := by kernel_rfl
theorem law31_text_ok : FunOk Try.prog 12 law31_text_fun := evFun_ok mixed ctx0 (no_calls) Try.func12 (by kernel_rfl) _ (fun x => congrArg Tr.run (law31_text_ev x)) (by kernel_rfl) (by kernel_rfl)
/-! ### boustrophedon/boustrophedonlaw31.awake -/
noncomputable def law31_awake_T : Tr Bool :=
  .bnd (cluster_Breaks_F ([101, 769, 120])) fun c_1 =>
  .bnd (law31_text_F c_1) fun c_2 =>
  .br (c_2.toList == (ByteArray.mk #[49, 48, 49, 49]).toList) (
    .bnd (cluster_Breaks_F ([13, 10])) fun c_3 =>
    .bnd (law31_text_F c_3) fun c_4 =>
    .br (c_4.toList == (ByteArray.mk #[49, 48, 49]).toList) (
      .bnd (cluster_Breaks_F ([127462, 127463, 127464, 127465])) fun c_5 =>
      .bnd (law31_text_F c_5) fun c_6 =>
      .br (c_6.toList == (ByteArray.mk #[49, 48, 49, 48, 49]).toList) (
        .bnd (cluster_Breaks_F ([128104, 8205, 128105])) fun c_7 =>
        .bnd (law31_text_F c_7) fun c_8 =>
        .br (c_8.toList == (ByteArray.mk #[49, 48, 48, 49]).toList) (
          .bnd (cluster_Breaks_F ([44032, 4520])) fun c_9 =>
          .bnd (law31_text_F c_9) fun c_10 =>
          .pure (c_10.toList == (ByteArray.mk #[49, 48, 49]).toList)) (
          .pure false)) (
        .pure false)) (
      .pure false)) (
    .pure false)
noncomputable def law31_awake_F : Option Bool := (law31_awake_T).run
def law31_awake_L : List (Nat × LoopAnn) := []
noncomputable def law31_awake_C : List (Nat × Callee) := [(8, .plain cluster_Breaks_fun), (12, .plain law31_text_fun)]
noncomputable def law31_awake_fun : Fun := ⟨[], [.v .bool], fun _ => law31_awake_F⟩
theorem law31_awake_ev (x : Tys.I []) : evFun G0 (fun f => olook f law31_awake_C) ⟨[], [], [], [], [], []⟩ (fun i => olook i law31_awake_L) Try.f7 [] [.v .bool] x = law31_awake_T := by kernel_rfl
theorem law31_awake_ok : FunOk Try.prog 7 law31_awake_fun := evFun_ok mixed ctx0 (cons_calls (fb := .plain cluster_Breaks_fun) cluster_Breaks_ok (fun h => by cases h) (cons_calls (fb := .plain law31_text_fun) law31_text_ok (fun h => by cases h) (no_calls))) Try.func7 (by kernel_rfl) _ (fun x => congrArg Tr.run (law31_awake_ev x)) (by kernel_rfl) (by kernel_rfl)
/-! ### boustrophedon/cluster.Of -/
noncomputable def cluster_Of_L4 (spans3 : List (Int × Int)) (from4 : Int) (t8 : List Bool) (t9 : Int) (t10 : Int) : Tr (Lap ((List (Int × Int)) × Int × List Bool × Int × Int) (List (Int × Int))) :=
  .br (decide (t10 < t9)) (
    .bnd (idx t8 t10) fun x_2 =>
    .br x_2 (
      .br (decide (t10 > from4)) (
        .bnd (app 8796093022208 spans3 ([(from4, t10)])) fun r_3 =>
        .pure (.next (r_3, t10, t8, t9, IntKind.i64.wrap (t10 + 1)))) (
        .pure (.next (spans3, from4, t8, t9, IntKind.i64.wrap (t10 + 1))))) (
      .pure (.next (spans3, from4, t8, t9, IntKind.i64.wrap (t10 + 1))))) (
    .pure (.done spans3))
noncomputable def cluster_Of_T (rs0 : List Int) : Tr (List (Int × Int)) :=
  .bnd (cluster_Breaks_F rs0) fun c_1 =>
  .bnd (loopW (fun s => (cluster_Of_L4 s.1 s.2.1 s.2.2.1 s.2.2.2.1 s.2.2.2.2).run) ([], 0, c_1, (c_1.length : Int), 0)) fun l_4 =>
  .pure l_4
noncomputable def cluster_Of_F (rs0 : List Int) : Option (List (Int × Int)) := (cluster_Of_T rs0).run
def cluster_Of_L : List (Nat × LoopAnn) := [(4, { head := [.srow 3 1000003 29 true (.st (.pair (.int .i64) (.int .i64))), .sv 4 true (.int .i64), .srow 8 1000008 4 true .bool, .sv 9 true (.int .i64), .sv 10 true (.int .i64)], xid := 0, out := [.srow 3 1000003 29 true (.st (.pair (.int .i64) (.int .i64)))], hasRet := false, res := [] })]
noncomputable def cluster_Of_C : List (Nat × Callee) := [(8, .plain cluster_Breaks_fun)]
noncomputable def cluster_Of_fun : Fun := ⟨[.sl (.int .i32)], [.row 29 (.st (.pair (.int .i64) (.int .i64)))], fun x => cluster_Of_F x.1⟩
theorem cluster_Of_ev (x : Tys.I [.sl (.int .i32)]) : evFun G0 (fun f => olook f cluster_Of_C) ⟨[], [], [], [], [], []⟩ (fun i => olook i cluster_Of_L) Try.f9 [.sl (.int .i32)] [.row 29 (.st (.pair (.int .i64) (.int .i64)))] x = cluster_Of_T x.1 := by kernel_rfl
theorem cluster_Of_ok : FunOk Try.prog 9 cluster_Of_fun := evFun_ok mixed ctx0 (cons_calls (fb := .plain cluster_Breaks_fun) cluster_Breaks_ok (fun h => by cases h) (no_calls)) Try.func9 (by kernel_rfl) _ (fun x => congrArg Tr.run (cluster_Of_ev x)) (by kernel_rfl) (by kernel_rfl)
/-! ### boustrophedon/boustrophedonlaw31.ClusterSpans -/
noncomputable def law31_ClusterSpans_L13 (rs0 : List Int) (bs3 : List Bool) (x6 : Int × Int) (k7 : Int) (t19 : List (Int × Int)) (t20 : Int) (t21 : Int) : Tr (Lap (List Int × List Bool × (Int × Int) × Int × (List (Int × Int)) × Int × Int) (Sum (List Int × List Bool × (Int × Int) × (List (Int × Int)) × Int × Int) Bool)) :=
  .bnd (idx ([x6]) 0) fun x_11 =>
  .br (decide (k7 < x_11.2)) (
    .bnd (idx bs3 k7) fun x_12 =>
    .br x_12 (
      .pure (.done (.inr false))) (
      .pure (.next (rs0, bs3, x6, IntKind.i64.wrap (k7 + 1), t19, t20, t21)))) (
    .pure (.done (.inl (rs0, bs3, x6, t19, t20, t21))))
noncomputable def law31_ClusterSpans_L8 (rs0 : List Int) (bs3 : List Bool) (at4 : Int) (t19 : List (Int × Int)) (t20 : Int) (t21 : Int) : Tr (Lap (List Int × List Bool × Int × (List (Int × Int)) × Int × Int) (Sum (List Int × Int) Bool)) :=
  .br (decide (t21 < t20)) (
    .bnd (idx t19 t21) fun x_4 =>
    .bnd (idx ([x_4]) 0) fun x_5 =>
    .br (x_5.1 != at4) (
      .pure (.done (.inr false))) (
      .bnd (idx ([x_4]) 0) fun x_6 =>
      .br (decide (x_6.2 ≤ at4)) (
        .pure (.done (.inr false))) (
        .bnd (idx ([x_4]) 0) fun x_7 =>
        .br (decide (x_7.2 > (rs0.length : Int))) (
          .pure (.done (.inr false))) (
          .bnd (idx ([x_4]) 0) fun x_8 =>
          .bnd (idx bs3 x_8.2) fun x_9 =>
          .br (!x_9) (
            .pure (.done (.inr false))) (
            .bnd (idx ([x_4]) 0) fun x_10 =>
            .alt (loopW (fun s => (law31_ClusterSpans_L13 s.1 s.2.1 s.2.2.1 s.2.2.2.1 s.2.2.2.2.1 s.2.2.2.2.2.1 s.2.2.2.2.2.2).run) (rs0, bs3, x_4, IntKind.i64.wrap (x_10.1 + 1), t19, t20, t21)) (fun l_13 =>
              .bnd (idx ([l_13.2.2.1]) 0) fun x_14 =>
              .pure (.next (l_13.1, l_13.2.1, x_14.2, l_13.2.2.2.1, l_13.2.2.2.2.1, IntKind.i64.wrap (l_13.2.2.2.2.2 + 1)))) (fun l_15 =>
              .pure (.done (.inr l_15)))))))) (
    .pure (.done (.inl (rs0, at4))))
noncomputable def law31_ClusterSpans_T (rs0 : List Int) : Tr Bool :=
  .bnd law31_awake_F fun c_1 =>
  .br (!c_1) (
    .pure false) (
    .bnd (cluster_Breaks_F rs0) fun c_2 =>
    .br ((c_2.length : Int) != (IntKind.i64.wrap ((rs0.length : Int) + 1))) (
      .pure false) (
      .bnd (cluster_Of_F rs0) fun c_3 =>
      .alt (loopW (fun s => (law31_ClusterSpans_L8 s.1 s.2.1 s.2.2.1 s.2.2.2.1 s.2.2.2.2.1 s.2.2.2.2.2).run) (rs0, c_2, 0, c_3, (c_3.length : Int), 0)) (fun l_16 =>
        .pure (l_16.2 == (l_16.1.length : Int))) (fun l_17 =>
        .pure l_17)))
noncomputable def law31_ClusterSpans_F (rs0 : List Int) : Option Bool := (law31_ClusterSpans_T rs0).run
def law31_ClusterSpans_L : List (Nat × LoopAnn) := [(13, { head := [.sv 0 false (.sl (.int .i32)), .srow 3 1000003 4 true .bool, .sbox 6 1000006 29 true (.st (.pair (.int .i64) (.int .i64))), .sv 7 true (.int .i64), .srow 19 1000019 29 true (.st (.pair (.int .i64) (.int .i64))), .sv 20 true (.int .i64), .sv 21 true (.int .i64)], xid := 2, out := [.sv 0 false (.sl (.int .i32)), .srow 3 1000003 4 true .bool, .sbox 6 1000006 29 true (.st (.pair (.int .i64) (.int .i64))), .srow 19 1000019 29 true (.st (.pair (.int .i64) (.int .i64))), .sv 20 true (.int .i64), .sv 21 true (.int .i64)], hasRet := true, res := [.sv 2 true .bool] }), (8, { head := [.sv 0 false (.sl (.int .i32)), .srow 3 1000003 4 true .bool, .sv 4 true (.int .i64), .srow 19 1000019 29 true (.st (.pair (.int .i64) (.int .i64))), .sv 20 true (.int .i64), .sv 21 true (.int .i64)], xid := 0, out := [.sv 0 false (.sl (.int .i32)), .sv 4 true (.int .i64)], hasRet := true, res := [.sv 2 true .bool] })]
noncomputable def law31_ClusterSpans_C : List (Nat × Callee) := [(7, .plain law31_awake_fun), (8, .plain cluster_Breaks_fun), (9, .plain cluster_Of_fun)]
noncomputable def law31_ClusterSpans_fun : Fun := ⟨[.sl (.int .i32)], [.v .bool], fun x => law31_ClusterSpans_F x.1⟩
theorem law31_ClusterSpans_ev (x : Tys.I [.sl (.int .i32)]) : evFun G0 (fun f => olook f law31_ClusterSpans_C) ⟨[], [], [], [], [], []⟩ (fun i => olook i law31_ClusterSpans_L) Try.f3 [.sl (.int .i32)] [.v .bool] x = law31_ClusterSpans_T x.1 := by kernel_rfl
theorem law31_ClusterSpans_ok : FunOk Try.prog 3 law31_ClusterSpans_fun := evFun_ok mixed ctx0 (cons_calls (fb := .plain law31_awake_fun) law31_awake_ok (fun h => by cases h) (cons_calls (fb := .plain cluster_Breaks_fun) cluster_Breaks_ok (fun h => by cases h) (cons_calls (fb := .plain cluster_Of_fun) cluster_Of_ok (fun h => by cases h) (no_calls)))) Try.func3 (by kernel_rfl) _ (fun x => congrArg Tr.run (law31_ClusterSpans_ev x)) (by kernel_rfl) (by kernel_rfl)
/-! ### boustrophedon/cluster.Next -/
noncomputable def cluster_Next_L2 (breaks0 : List Bool) (i5 : Int) : Tr (Lap (List Bool × Int) (Sum (List Bool) Int)) :=
  .br (decide (i5 < (IntKind.i64.wrap ((breaks0.length : Int) - 1)))) (
    .bnd (idx breaks0 (IntKind.i64.wrap (i5 + 1))) fun x_1 =>
    .br x_1 (
      .pure (.done (.inr (IntKind.i64.wrap (i5 + 1))))) (
      .pure (.next (breaks0, IntKind.i64.wrap (i5 + 1))))) (
    .pure (.done (.inl breaks0)))
noncomputable def cluster_Next_T (breaks0 : List Bool) (at1 : Int) : Tr Int :=
  .alt (loopW (fun s => (cluster_Next_L2 s.1 s.2).run) (breaks0, if (-1) > at1 then (-1) else at1)) (fun l_2 =>
    .pure (if 0 > (IntKind.i64.wrap ((l_2.length : Int) - 1)) then 0 else (IntKind.i64.wrap ((l_2.length : Int) - 1)))) (fun l_3 =>
    .pure l_3)
noncomputable def cluster_Next_F (breaks0 : List Bool) (at1 : Int) : Option Int := (cluster_Next_T breaks0 at1).run
def cluster_Next_L : List (Nat × LoopAnn) := [(2, { head := [.sv 0 false (.sl .bool), .sv 5 true (.int .i64)], xid := 0, out := [.sv 0 false (.sl .bool)], hasRet := true, res := [.sv 4 true (.int .i64)] })]
noncomputable def cluster_Next_C : List (Nat × Callee) := []
noncomputable def cluster_Next_fun : Fun := ⟨[.sl .bool, .int .i64], [.v (.int .i64)], fun x => cluster_Next_F x.1 x.2.1⟩
theorem cluster_Next_ev (x : Tys.I [.sl .bool, .int .i64]) : evFun G0 (fun f => olook f cluster_Next_C) ⟨[], [], [], [], [], []⟩ (fun i => olook i cluster_Next_L) Try.f10 [.sl .bool, .int .i64] [.v (.int .i64)] x = cluster_Next_T x.1 x.2.1 := by kernel_rfl
theorem cluster_Next_ok : FunOk Try.prog 10 cluster_Next_fun := evFun_ok mixed ctx0 (no_calls) Try.func10 (by kernel_rfl) _ (fun x => congrArg Tr.run (cluster_Next_ev x)) (by kernel_rfl) (by kernel_rfl)
/-! ### boustrophedon/cluster.Prev -/
noncomputable def cluster_Prev_L2 (breaks0 : List Bool) (i5 : Int) : Tr (Lap (List Bool × Int) (Sum Unit Int)) :=
  .br (decide (i5 > 0)) (
    .bnd (idx breaks0 i5) fun x_1 =>
    .br x_1 (
      .pure (.done (.inr i5))) (
      .pure (.next (breaks0, IntKind.i64.wrap (i5 - 1))))) (
    .pure (.done (.inl ())))
noncomputable def cluster_Prev_T (breaks0 : List Bool) (at1 : Int) : Tr Int :=
  .alt (loopW (fun s => (cluster_Prev_L2 s.1 s.2).run) (breaks0, IntKind.i64.wrap ((if (breaks0.length : Int) < (if 0 > at1 then 0 else at1) then (breaks0.length : Int) else (if 0 > at1 then 0 else at1)) - 1))) (fun l_2 =>
    .pure 0) (fun l_3 =>
    .pure l_3)
noncomputable def cluster_Prev_F (breaks0 : List Bool) (at1 : Int) : Option Int := (cluster_Prev_T breaks0 at1).run
def cluster_Prev_L : List (Nat × LoopAnn) := [(2, { head := [.sv 0 false (.sl .bool), .sv 5 true (.int .i64)], xid := 0, out := [], hasRet := true, res := [.sv 4 true (.int .i64)] })]
noncomputable def cluster_Prev_C : List (Nat × Callee) := []
noncomputable def cluster_Prev_fun : Fun := ⟨[.sl .bool, .int .i64], [.v (.int .i64)], fun x => cluster_Prev_F x.1 x.2.1⟩
theorem cluster_Prev_ev (x : Tys.I [.sl .bool, .int .i64]) : evFun G0 (fun f => olook f cluster_Prev_C) ⟨[], [], [], [], [], []⟩ (fun i => olook i cluster_Prev_L) Try.f11 [.sl .bool, .int .i64] [.v (.int .i64)] x = cluster_Prev_T x.1 x.2.1 := by kernel_rfl
theorem cluster_Prev_ok : FunOk Try.prog 11 cluster_Prev_fun := evFun_ok mixed ctx0 (no_calls) Try.func11 (by kernel_rfl) _ (fun x => congrArg Tr.run (cluster_Prev_ev x)) (by kernel_rfl) (by kernel_rfl)
/-! ### boustrophedon/boustrophedonlaw31.ClusterMoves -/
noncomputable def law31_ClusterMoves_L5 (bs0 : List Bool) (at1 : Int) (next5 : Int) (prev6 : Int) (k7 : Int) : Tr (Lap (List Bool × Int × Int × Int × Int) (List Bool × Int × Int × Int)) :=
  .br (decide (k7 ≥ 0)) (
    .bnd (idx bs0 k7) fun x_2 =>
    .br x_2 (
      .br (decide (k7 > at1)) (
        .pure (.next (bs0, at1, k7, prev6, IntKind.i64.wrap (k7 - 1)))) (
        .pure (.next (bs0, at1, next5, prev6, IntKind.i64.wrap (k7 - 1))))) (
      .pure (.next (bs0, at1, next5, prev6, IntKind.i64.wrap (k7 - 1))))) (
    .pure (.done (bs0, at1, next5, prev6)))
noncomputable def law31_ClusterMoves_L10 (bs0 : List Bool) (at1 : Int) (next5 : Int) (prev6 : Int) (k8 : Int) : Tr (Lap (List Bool × Int × Int × Int × Int) (List Bool × Int × Int × Int)) :=
  .br (decide (k8 < (bs0.length : Int))) (
    .bnd (idx bs0 k8) fun x_4 =>
    .br x_4 (
      .br (decide (k8 < at1)) (
        .pure (.next (bs0, at1, next5, k8, IntKind.i64.wrap (k8 + 1)))) (
        .pure (.next (bs0, at1, next5, prev6, IntKind.i64.wrap (k8 + 1))))) (
      .pure (.next (bs0, at1, next5, prev6, IntKind.i64.wrap (k8 + 1))))) (
    .pure (.done (bs0, at1, next5, prev6)))
noncomputable def law31_ClusterMoves_T (bs0 : List Bool) (at1 : Int) : Tr Bool :=
  .bnd law31_awake_F fun c_1 =>
  .br (!c_1) (
    .pure false) (
    .bnd (loopW (fun s => (law31_ClusterMoves_L5 s.1 s.2.1 s.2.2.1 s.2.2.2.1 s.2.2.2.2).run) (bs0, at1, if (IntKind.i64.wrap ((bs0.length : Int) - 1)) > 0 then (IntKind.i64.wrap ((bs0.length : Int) - 1)) else 0, 0, IntKind.i64.wrap ((bs0.length : Int) - 1))) fun l_3 =>
    .bnd (loopW (fun s => (law31_ClusterMoves_L10 s.1 s.2.1 s.2.2.1 s.2.2.2.1 s.2.2.2.2).run) (l_3.1, l_3.2.1, l_3.2.2.1, l_3.2.2.2, 1)) fun l_5 =>
    .bnd (cluster_Next_F l_5.1 l_5.2.1) fun c_6 =>
    .br (c_6 == l_5.2.2.1) (
      .bnd (cluster_Prev_F l_5.1 l_5.2.1) fun c_7 =>
      .pure (c_7 == l_5.2.2.2)) (
      .pure false))
noncomputable def law31_ClusterMoves_F (bs0 : List Bool) (at1 : Int) : Option Bool := (law31_ClusterMoves_T bs0 at1).run
def law31_ClusterMoves_L : List (Nat × LoopAnn) := [(5, { head := [.sv 0 false (.sl .bool), .sv 1 false (.int .i64), .sv 5 true (.int .i64), .sv 6 true (.int .i64), .sv 7 true (.int .i64)], xid := 0, out := [.sv 0 false (.sl .bool), .sv 1 false (.int .i64), .sv 5 true (.int .i64), .sv 6 true (.int .i64)], hasRet := false, res := [] }), (10, { head := [.sv 0 false (.sl .bool), .sv 1 false (.int .i64), .sv 5 true (.int .i64), .sv 6 true (.int .i64), .sv 8 true (.int .i64)], xid := 2, out := [.sv 0 false (.sl .bool), .sv 1 false (.int .i64), .sv 5 true (.int .i64), .sv 6 true (.int .i64)], hasRet := false, res := [] })]
noncomputable def law31_ClusterMoves_C : List (Nat × Callee) := [(7, .plain law31_awake_fun), (10, .plain cluster_Next_fun), (11, .plain cluster_Prev_fun)]
noncomputable def law31_ClusterMoves_fun : Fun := ⟨[.sl .bool, .int .i64], [.v .bool], fun x => law31_ClusterMoves_F x.1 x.2.1⟩
theorem law31_ClusterMoves_ev (x : Tys.I [.sl .bool, .int .i64]) : evFun G0 (fun f => olook f law31_ClusterMoves_C) ⟨[], [], [], [], [], []⟩ (fun i => olook i law31_ClusterMoves_L) Try.f4 [.sl .bool, .int .i64] [.v .bool] x = law31_ClusterMoves_T x.1 x.2.1 := by kernel_rfl
theorem law31_ClusterMoves_ok : FunOk Try.prog 4 law31_ClusterMoves_fun := evFun_ok mixed ctx0 (cons_calls (fb := .plain law31_awake_fun) law31_awake_ok (fun h => by cases h) (cons_calls (fb := .plain cluster_Next_fun) cluster_Next_ok (fun h => by cases h) (cons_calls (fb := .plain cluster_Prev_fun) cluster_Prev_ok (fun h => by cases h) (no_calls)))) Try.func4 (by kernel_rfl) _ (fun x => congrArg Tr.run (law31_ClusterMoves_ev x)) (by kernel_rfl) (by kernel_rfl)
/-! ### boustrophedon/boustrophedonlaw31.ClusterBack -/
noncomputable def law31_ClusterBack_L5 (rs0 : List Int) (bs3 : List Bool) (at4 : Int) (n5 : Int) : Tr (Lap (List Int × List Bool × Int × Int) (Sum (List Int × Int × Int) Bool)) :=
  .br (decide (at4 < (rs0.length : Int))) (
    .br (decide (n5 ≤ (rs0.length : Int))) (
      .bnd (cluster_Next_F bs3 at4) fun c_3 =>
      .br (decide (c_3 ≤ at4)) (
        .pure (.done (.inr false))) (
        .bnd (cluster_Prev_F bs3 c_3) fun c_4 =>
        .br (c_4 != at4) (
          .pure (.done (.inr false))) (
          .pure (.next (rs0, bs3, c_3, IntKind.i64.wrap (n5 + 1)))))) (
      .pure (.done (.inl (rs0, at4, n5))))) (
    .pure (.done (.inl (rs0, at4, n5))))
noncomputable def law31_ClusterBack_T (rs0 : List Int) : Tr Bool :=
  .bnd law31_awake_F fun c_1 =>
  .br (!c_1) (
    .pure false) (
    .bnd (cluster_Breaks_F rs0) fun c_2 =>
    .alt (loopW (fun s => (law31_ClusterBack_L5 s.1 s.2.1 s.2.2.1 s.2.2.2).run) (rs0, c_2, 0, 0)) (fun l_5 =>
      .br (l_5.2.1 == (l_5.1.length : Int)) (
        .bnd (cluster_Of_F l_5.1) fun c_6 =>
        .pure (l_5.2.2 == (c_6.length : Int))) (
        .pure false)) (fun l_7 =>
      .pure l_7))
noncomputable def law31_ClusterBack_F (rs0 : List Int) : Option Bool := (law31_ClusterBack_T rs0).run
def law31_ClusterBack_L : List (Nat × LoopAnn) := [(5, { head := [.sv 0 false (.sl (.int .i32)), .srow 3 1000003 4 true .bool, .sv 4 true (.int .i64), .sv 5 true (.int .i64)], xid := 0, out := [.sv 0 false (.sl (.int .i32)), .sv 4 true (.int .i64), .sv 5 true (.int .i64)], hasRet := true, res := [.sv 2 true .bool] })]
noncomputable def law31_ClusterBack_C : List (Nat × Callee) := [(7, .plain law31_awake_fun), (8, .plain cluster_Breaks_fun), (10, .plain cluster_Next_fun), (11, .plain cluster_Prev_fun), (9, .plain cluster_Of_fun)]
noncomputable def law31_ClusterBack_fun : Fun := ⟨[.sl (.int .i32)], [.v .bool], fun x => law31_ClusterBack_F x.1⟩
theorem law31_ClusterBack_ev (x : Tys.I [.sl (.int .i32)]) : evFun G0 (fun f => olook f law31_ClusterBack_C) ⟨[], [], [], [], [], []⟩ (fun i => olook i law31_ClusterBack_L) Try.f5 [.sl (.int .i32)] [.v .bool] x = law31_ClusterBack_T x.1 := by kernel_rfl
theorem law31_ClusterBack_ok : FunOk Try.prog 5 law31_ClusterBack_fun := evFun_ok mixed ctx0 (cons_calls (fb := .plain law31_awake_fun) law31_awake_ok (fun h => by cases h) (cons_calls (fb := .plain cluster_Breaks_fun) cluster_Breaks_ok (fun h => by cases h) (cons_calls (fb := .plain cluster_Next_fun) cluster_Next_ok (fun h => by cases h) (cons_calls (fb := .plain cluster_Prev_fun) cluster_Prev_ok (fun h => by cases h) (cons_calls (fb := .plain cluster_Of_fun) cluster_Of_ok (fun h => by cases h) (no_calls)))))) Try.func5 (by kernel_rfl) _ (fun x => congrArg Tr.run (law31_ClusterBack_ev x)) (by kernel_rfl) (by kernel_rfl)
/-! ### boustrophedon/boustrophedonlaw31.ClusterLetters -/
noncomputable def law31_ClusterLetters_L9 (ns0 : List Int) (rs3 : List Int) (n5 : Int) (k6 : Int) (t9 : List Int) (t10 : Int) (t11 : Int) : Tr (Lap (List Int × List Int × Int × Int × List Int × Int × Int) (List Int × List Int × List Int × Int × Int)) :=
  .br (decide (k6 < (IntKind.i64.wrap (IntKind.u8.wrap (n5.tdiv 64))))) (
    .bnd (app 35184372088832 rs3 ([IntKind.i32.wrap (768 + (IntKind.i32.wrap k6))])) fun r_4 =>
    .pure (.next (ns0, r_4, n5, IntKind.i64.wrap (k6 + 1), t9, t10, t11))) (
    .pure (.done (ns0, rs3, t9, t10, t11)))
noncomputable def law31_ClusterLetters_L5 (ns0 : List Int) (rs3 : List Int) (t9 : List Int) (t10 : Int) (t11 : Int) : Tr (Lap (List Int × List Int × List Int × Int × Int) (List Int × List Int)) :=
  .br (decide (t11 < t10)) (
    .bnd (idx t9 t11) fun x_2 =>
    .bnd (app 35184372088832 rs3 ([IntKind.i32.wrap (IntKind.i64.wrap (97 + ((IntKind.i64.wrap x_2).tmod 26)))])) fun r_3 =>
    .bnd (loopW (fun s => (law31_ClusterLetters_L9 s.1 s.2.1 s.2.2.1 s.2.2.2.1 s.2.2.2.2.1 s.2.2.2.2.2.1 s.2.2.2.2.2.2).run) (ns0, r_3, x_2, 0, t9, t10, t11)) fun l_5 =>
    .pure (.next (l_5.1, l_5.2.1, l_5.2.2.1, l_5.2.2.2.1, IntKind.i64.wrap (l_5.2.2.2.2 + 1)))) (
    .pure (.done (ns0, rs3)))
noncomputable def law31_ClusterLetters_T (ns0 : List Int) : Tr Bool :=
  .bnd law31_awake_F fun c_1 =>
  .br (!c_1) (
    .pure false) (
    .bnd (loopW (fun s => (law31_ClusterLetters_L5 s.1 s.2.1 s.2.2.1 s.2.2.2.1 s.2.2.2.2).run) (ns0, [], ns0, (ns0.length : Int), 0)) fun l_6 =>
    .bnd (cluster_Of_F l_6.2) fun c_7 =>
    .pure ((c_7.length : Int) == (l_6.1.length : Int)))
noncomputable def law31_ClusterLetters_F (ns0 : List Int) : Option Bool := (law31_ClusterLetters_T ns0).run
def law31_ClusterLetters_L : List (Nat × LoopAnn) := [(9, { head := [.sv 0 false (.sl (.int .u8)), .srow 3 1000003 21 true (.int .i32), .sv 5 false (.int .u8), .sv 6 true (.int .i64), .sv 9 false (.sl (.int .u8)), .sv 10 true (.int .i64), .sv 11 true (.int .i64)], xid := 2, out := [.sv 0 false (.sl (.int .u8)), .srow 3 1000003 21 true (.int .i32), .sv 9 false (.sl (.int .u8)), .sv 10 true (.int .i64), .sv 11 true (.int .i64)], hasRet := false, res := [] }), (5, { head := [.sv 0 false (.sl (.int .u8)), .srow 3 1000003 21 true (.int .i32), .sv 9 false (.sl (.int .u8)), .sv 10 true (.int .i64), .sv 11 true (.int .i64)], xid := 0, out := [.sv 0 false (.sl (.int .u8)), .srow 3 1000003 21 true (.int .i32)], hasRet := false, res := [] })]
noncomputable def law31_ClusterLetters_C : List (Nat × Callee) := [(7, .plain law31_awake_fun), (9, .plain cluster_Of_fun)]
noncomputable def law31_ClusterLetters_fun : Fun := ⟨[.sl (.int .u8)], [.v .bool], fun x => law31_ClusterLetters_F x.1⟩
theorem law31_ClusterLetters_ev (x : Tys.I [.sl (.int .u8)]) : evFun G0 (fun f => olook f law31_ClusterLetters_C) ⟨[], [], [], [], [], []⟩ (fun i => olook i law31_ClusterLetters_L) Try.f6 [.sl (.int .u8)] [.v .bool] x = law31_ClusterLetters_T x.1 := by kernel_rfl
theorem law31_ClusterLetters_ok : FunOk Try.prog 6 law31_ClusterLetters_fun := evFun_ok mixed ctx0 (cons_calls (fb := .plain law31_awake_fun) law31_awake_ok (fun h => by cases h) (cons_calls (fb := .plain cluster_Of_fun) cluster_Of_ok (fun h => by cases h) (no_calls))) Try.func6 (by kernel_rfl) _ (fun x => congrArg Tr.run (law31_ClusterLetters_ev x)) (by kernel_rfl) (by kernel_rfl)
end Go.Proofs.Ytenopbjggdhfgaa
