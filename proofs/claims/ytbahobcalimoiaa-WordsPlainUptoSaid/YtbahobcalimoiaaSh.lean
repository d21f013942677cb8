/-
  The plain readings of the functions of this seat, by program; each is tied to the loaded function.
-/
import Derived.Test.YtbahobcalimoiaaEvErr
import Derived.Test.YtbahobcalimoiaaChecked
namespace Go.Proofs.Ytbahobcalimoiaa
set_option maxRecDepth 100000
set_option linter.unusedVariables false

def G0 : Ctx := { ty := [(3, .int .i64), (4, .bool), (5, .int .u8), (9, .str), (21, .int .i32), (22, .sl (.int .i32)), (24, .sl (.int .i64)), (26, .sl (.st (.pair (.int .i64) (.int .i64)))), (29, .st (.pair (.int .i64) (.int .i64))), (30, .int .i64), (33, .sl .bool), (36, .sl (.int .u8)), (40, .int .u8), (43, .sl (.int .u8)), (45, .sl (.int .i64)), (48, .st (.pair (.int .u8) (.pair .bool (.int .i64)))), (54, .sl (.arr 3 (.int .i64))), (56, .sl (.st (.pair (.int .i32) (.pair (.int .i32) (.int .u8))))), (63, .arr 3 (.int .i64)), (64, .sl (.st (.pair (.int .i32) (.pair (.int .i32) (.int .u8))))), (67, .st (.pair (.int .i32) (.pair (.int .i32) (.int .u8)))), (69, .st (.pair (.int .i32) (.pair (.int .i32) (.int .u8)))), (70, .sl (.st (.pair (.int .i32) (.pair (.int .i32) (.int .u8))))), (73, .st (.pair (.int .i32) (.pair (.int .i32) (.int .u8))))], sls := [(22, ⟨21, .int .i32, 35184372088832⟩), (24, ⟨30, .int .i64, 17592186044416⟩), (26, ⟨29, .st (.pair (.int .i64) (.int .i64)), 8796093022208⟩), (33, ⟨4, .bool, 140737488355328⟩), (36, ⟨5, .int .u8, 140737488355328⟩), (43, ⟨40, .int .u8, 140737488355328⟩), (45, ⟨3, .int .i64, 17592186044416⟩), (54, ⟨63, .arr 3 (.int .i64), 5864062014805⟩), (56, ⟨69, .st (.pair (.int .i32) (.pair (.int .i32) (.int .u8))), 11728124029610⟩), (64, ⟨67, .st (.pair (.int .i32) (.pair (.int .i32) (.int .u8))), 11728124029610⟩), (70, ⟨73, .st (.pair (.int .i32) (.pair (.int .i32) (.int .u8))), 11728124029610⟩)], eqs := [], enos := [] }
theorem mixed : Try.prog.follows .mixedOrders = true := by kernel_rfl
theorem ctx0 : CtxOk Try.prog G0 := ctx_ok (by kernel_rfl)
theorem no_calls {Λ : List Nat} : ∀ f fa, olook f ([] : List (Nat × Callee)) = some fa → CalleeOk Try.prog f fa ∧ (fa.isPlain = false → inList f Λ = true) := fun _ _ h => by cases h
theorem cons_calls {Λ : List Nat} {k : Nat} {fb : Callee} {l : List (Nat × Callee)} (h : CalleeOk Try.prog k fb) (hi : fb.isPlain = false → inList k Λ = true) (hl : ∀ f fa, olook f l = some fa → CalleeOk Try.prog f fa ∧ (fa.isPlain = false → inList f Λ = true)) : ∀ f fa, olook f ((k, fb) :: l) = some fa → CalleeOk Try.prog f fa ∧ (fa.isPlain = false → inList f Λ = true) := by
  intro f fa hf
  rw [olook_cons] at hf
  split at hf
  · rename_i e; subst e; cases hf; exact ⟨h, hi⟩
  · exact hl f fa hf

theorem pc {Λ : List Nat} {k : Nat} {fa : Fun} {l : List (Nat × Callee)} (h : FunOk Try.prog k fa) (hl : ∀ f fa, olook f l = some fa → CalleeOk Try.prog f fa ∧ (fa.isPlain = false → inList f Λ = true)) : ∀ f fb, olook f ((k, .plain fa) :: l) = some fb → CalleeOk Try.prog f fb ∧ (fb.isPlain = false → inList f Λ = true) := cons_calls (fb := .plain fa) h (fun h => by cases h) hl
@[reducible] def Ta : Ty := .st (.pair (.sl (.int .i64)) (.pair (.int .i64) (.pair (.int .u8) (.int .u8))))
@[reducible] def Tb : Ty := .st (.pair (.int .i64) (.pair (.int .u8) .bool))
@[reducible] def Tc : Ty := .st (.pair (.int .i64) (.pair (.int .i64) (.int .i64)))
@[reducible] def Td : Ty := .st (.pair (.int .i32) (.pair (.int .i32) (.int .u8)))
@[reducible] def Te : Ty := .sl (.int .i64)
@[reducible] def Tf : Ty := .sl (.int .u8)
@[reducible] def Tg : Ty := .sl (.int .i32)
@[reducible] def Th : Ty := .int .i64
@[reducible] def Ti : Ty := .int .u8
@[reducible] def Tj : Ty := .int .i32
@[reducible] def A0 : Ann := ⟨[], [], [], [], [], []⟩
@[reducible] def of_ (l : List (Nat × Callee)) : FuncId → Option Callee := fun f => olook f l
@[reducible] def ol_ (l : List (Nat × LoopAnn)) : Nat → Option LoopAnn := fun i => olook i l
noncomputable def linec_rows_T : Tr (List (Int × Int × Int)) :=
  .pure ([((0 : Int), (8 : Int), (3 : Int)), ((9 : Int), (9 : Int), (14 : Int)), ((10 : Int), (10 : Int), (7 : Int)), ((11 : Int), (12 : Int), (5 : Int)), ((13 : Int), (13 : Int), (6 : Int)), ((14 : Int), (31 : Int), (3 : Int)), ((32 : Int), (32 : Int), (9 : Int)), ((33 : Int), (33 : Int), (23 : Int)), ((34 : Int), (34 : Int), (22 : Int)), ((35 : Int), (35 : Int), (1 : Int)), ((36 : Int), (36 : Int), (29 : Int)), ((37 : Int), (37 : Int), (28 : Int)), ((38 : Int), (38 : Int), (1 : Int)), ((39 : Int), (39 : Int), (22 : Int)), ((40 : Int), (40 : Int), (21 : Int)), ((41 : Int), (41 : Int), (20 : Int)), ((42 : Int), (42 : Int), (1 : Int)), ((43 : Int), (43 : Int), (29 : Int)), ((44 : Int), (44 : Int), (25 : Int)), ((45 : Int), (45 : Int), (17 : Int)), ((46 : Int), (46 : Int), (25 : Int)), ((47 : Int), (47 : Int), (26 : Int)), ((48 : Int), (57 : Int), (27 : Int)), ((58 : Int), (59 : Int), (25 : Int)), ((60 : Int), (62 : Int), (1 : Int)), ((63 : Int), (63 : Int), (23 : Int)), ((64 : Int), (90 : Int), (1 : Int)), ((91 : Int), (91 : Int), (21 : Int)), ((92 : Int), (92 : Int), (29 : Int)), ((93 : Int), (93 : Int), (20 : Int)), ((94 : Int), (122 : Int), (1 : Int)), ((123 : Int), (123 : Int), (21 : Int)), ((124 : Int), (124 : Int), (14 : Int)), ((125 : Int), (125 : Int), (19 : Int)), ((126 : Int), (126 : Int), (1 : Int)), ((127 : Int), (132 : Int), (3 : Int)), ((133 : Int), (133 : Int), (8 : Int)), ((134 : Int), (159 : Int), (3 : Int)), ((160 : Int), (160 : Int), (12 : Int)), ((161 : Int), (161 : Int), (21 : Int)), ((162 : Int), (162 : Int), (28 : Int)), ((163 : Int), (165 : Int), (29 : Int)), ((166 : Int), (166 : Int), (1 : Int)), ((167 : Int), (168 : Int), (39 : Int)), ((169 : Int), (169 : Int), (1 : Int)), ((170 : Int), (170 : Int), (39 : Int)), ((171 : Int), (171 : Int), (22 : Int)), ((172 : Int), (172 : Int), (1 : Int)), ((173 : Int), (173 : Int), (14 : Int)), ((174 : Int), (175 : Int), (1 : Int)), ((176 : Int), (176 : Int), (28 : Int)), ((177 : Int), (177 : Int), (29 : Int)), ((178 : Int), (179 : Int), (39 : Int)), ((180 : Int), (180 : Int), (15 : Int)), ((181 : Int), (181 : Int), (1 : Int)), ((182 : Int), (186 : Int), (39 : Int)), ((187 : Int), (187 : Int), (22 : Int)), ((188 : Int), (190 : Int), (39 : Int)), ((191 : Int), (191 : Int), (21 : Int)), ((192 : Int), (214 : Int), (1 : Int)), ((215 : Int), (215 : Int), (39 : Int)), ((216 : Int), (246 : Int), (1 : Int)), ((247 : Int), (247 : Int), (39 : Int)), ((248 : Int), (710 : Int), (1 : Int)), ((712 : Int), (712 : Int), (15 : Int)), ((716 : Int), (716 : Int), (15 : Int)), ((735 : Int), (735 : Int), (15 : Int)), ((768 : Int), (846 : Int), (3 : Int)), ((847 : Int), (847 : Int), (12 : Int)), ((848 : Int), (859 : Int), (3 : Int)), ((860 : Int), (866 : Int), (12 : Int)), ((867 : Int), (879 : Int), (3 : Int)), ((880 : Int), (1154 : Int), (1 : Int)), ((1155 : Int), (1161 : Int), (3 : Int)), ((1162 : Int), (1416 : Int), (1 : Int)), ((1417 : Int), (1417 : Int), (25 : Int)), ((1418 : Int), (1418 : Int), (14 : Int)), ((1425 : Int), (1469 : Int), (3 : Int)), ((1470 : Int), (1470 : Int), (14 : Int)), ((1471 : Int), (1471 : Int), (3 : Int)), ((1473 : Int), (1474 : Int), (3 : Int)), ((1476 : Int), (1477 : Int), (3 : Int)), ((1478 : Int), (1478 : Int), (23 : Int)), ((1479 : Int), (1479 : Int), (3 : Int)), ((1488 : Int), (1522 : Int), (2 : Int)), ((1536 : Int), (1544 : Int), (1 : Int)), ((1545 : Int), (1547 : Int), (28 : Int)), ((1548 : Int), (1549 : Int), (25 : Int)), ((1550 : Int), (1551 : Int), (1 : Int)), ((1552 : Int), (1562 : Int), (3 : Int)), ((1563 : Int), (1563 : Int), (23 : Int)), ((1564 : Int), (1564 : Int), (3 : Int)), ((1565 : Int), (1567 : Int), (23 : Int)), ((1568 : Int), (1610 : Int), (1 : Int)), ((1611 : Int), (1631 : Int), (3 : Int)), ((1632 : Int), (1641 : Int), (27 : Int)), ((1642 : Int), (1642 : Int), (28 : Int)), ((1643 : Int), (1644 : Int), (27 : Int)), ((1645 : Int), (1647 : Int), (1 : Int)), ((1648 : Int), (1648 : Int), (3 : Int)), ((1649 : Int), (1747 : Int), (1 : Int)), ((1748 : Int), (1748 : Int), (23 : Int)), ((1749 : Int), (1749 : Int), (1 : Int)), ((1750 : Int), (1756 : Int), (3 : Int)), ((1757 : Int), (1757 : Int), (27 : Int)), ((1758 : Int), (1758 : Int), (1 : Int)), ((1759 : Int), (1764 : Int), (3 : Int)), ((1765 : Int), (1766 : Int), (1 : Int)), ((1767 : Int), (1768 : Int), (3 : Int)), ((1769 : Int), (1769 : Int), (1 : Int)), ((1770 : Int), (1773 : Int), (3 : Int)), ((1774 : Int), (1775 : Int), (1 : Int)), ((1776 : Int), (1785 : Int), (27 : Int)), ((1786 : Int), (1808 : Int), (1 : Int)), ((1809 : Int), (1809 : Int), (3 : Int)), ((1810 : Int), (1839 : Int), (1 : Int)), ((1840 : Int), (1866 : Int), (3 : Int)), ((1867 : Int), (1957 : Int), (1 : Int)), ((1958 : Int), (1968 : Int), (3 : Int)), ((2304 : Int), (2307 : Int), (3 : Int)), ((2308 : Int), (2361 : Int), (1 : Int)), ((2362 : Int), (2364 : Int), (3 : Int)), ((2365 : Int), (2365 : Int), (1 : Int)), ((2366 : Int), (2383 : Int), (3 : Int)), ((2392 : Int), (2401 : Int), (1 : Int)), ((2404 : Int), (2405 : Int), (14 : Int)), ((2406 : Int), (2415 : Int), (27 : Int)), ((3585 : Int), (3632 : Int), (40 : Int)), ((3633 : Int), (3633 : Int), (40 : Int)), ((3634 : Int), (3635 : Int), (40 : Int)), ((3636 : Int), (3642 : Int), (40 : Int)), ((3647 : Int), (3647 : Int), (29 : Int)), ((3648 : Int), (3662 : Int), (40 : Int)), ((3664 : Int), (3673 : Int), (27 : Int)), ((3674 : Int), (3675 : Int), (14 : Int)), ((4352 : Int), (4447 : Int), (34 : Int)), ((4448 : Int), (4519 : Int), (35 : Int)), ((4520 : Int), (4607 : Int), (36 : Int)), ((5760 : Int), (5760 : Int), (14 : Int)), ((8192 : Int), (8198 : Int), (14 : Int)), ((8199 : Int), (8199 : Int), (12 : Int)), ((8200 : Int), (8202 : Int), (14 : Int)), ((8203 : Int), (8203 : Int), (10 : Int)), ((8204 : Int), (8204 : Int), (3 : Int)), ((8205 : Int), (8205 : Int), (4 : Int)), ((8206 : Int), (8207 : Int), (3 : Int)), ((8208 : Int), (8208 : Int), (14 : Int)), ((8209 : Int), (8209 : Int), (12 : Int)), ((8210 : Int), (8211 : Int), (14 : Int)), ((8212 : Int), (8212 : Int), (16 : Int)), ((8213 : Int), (8214 : Int), (39 : Int)), ((8216 : Int), (8217 : Int), (22 : Int)), ((8218 : Int), (8218 : Int), (21 : Int)), ((8219 : Int), (8221 : Int), (22 : Int)), ((8222 : Int), (8222 : Int), (21 : Int)), ((8223 : Int), (8223 : Int), (22 : Int)), ((8224 : Int), (8225 : Int), (39 : Int)), ((8228 : Int), (8230 : Int), (24 : Int)), ((8231 : Int), (8231 : Int), (14 : Int)), ((8232 : Int), (8233 : Int), (5 : Int)), ((8234 : Int), (8238 : Int), (3 : Int)), ((8239 : Int), (8239 : Int), (12 : Int)), ((8240 : Int), (8247 : Int), (28 : Int)), ((8248 : Int), (8248 : Int), (1 : Int)), ((8249 : Int), (8250 : Int), (22 : Int)), ((8251 : Int), (8251 : Int), (39 : Int)), ((8252 : Int), (8253 : Int), (18 : Int)), ((8260 : Int), (8260 : Int), (25 : Int)), ((8261 : Int), (8261 : Int), (21 : Int)), ((8262 : Int), (8262 : Int), (19 : Int)), ((8263 : Int), (8265 : Int), (18 : Int)), ((8278 : Int), (8278 : Int), (14 : Int)), ((8280 : Int), (8283 : Int), (14 : Int)), ((8285 : Int), (8287 : Int), (14 : Int)), ((8288 : Int), (8288 : Int), (11 : Int)), ((8294 : Int), (8303 : Int), (3 : Int)), ((8317 : Int), (8317 : Int), (21 : Int)), ((8318 : Int), (8318 : Int), (19 : Int)), ((8333 : Int), (8333 : Int), (21 : Int)), ((8334 : Int), (8334 : Int), (19 : Int)), ((8352 : Int), (8358 : Int), (29 : Int)), ((8359 : Int), (8359 : Int), (28 : Int)), ((8360 : Int), (8373 : Int), (29 : Int)), ((8374 : Int), (8374 : Int), (28 : Int)), ((8375 : Int), (8399 : Int), (29 : Int)), ((8400 : Int), (8432 : Int), (3 : Int)), ((8451 : Int), (8451 : Int), (28 : Int)), ((8457 : Int), (8457 : Int), (28 : Int)), ((8470 : Int), (8470 : Int), (29 : Int)), ((8592 : Int), (8601 : Int), (39 : Int)), ((8722 : Int), (8723 : Int), (29 : Int)), ((8968 : Int), (8968 : Int), (21 : Int)), ((8969 : Int), (8969 : Int), (19 : Int)), ((8970 : Int), (8970 : Int), (21 : Int)), ((8971 : Int), (8971 : Int), (19 : Int)), ((8986 : Int), (8987 : Int), (30 : Int)), ((9001 : Int), (9001 : Int), (21 : Int)), ((9002 : Int), (9002 : Int), (19 : Int)), ((9200 : Int), (9203 : Int), (30 : Int)), ((9312 : Int), (9470 : Int), (39 : Int)), ((9472 : Int), (9547 : Int), (39 : Int)), ((9728 : Int), (9731 : Int), (30 : Int)), ((9748 : Int), (9749 : Int), (30 : Int)), ((9757 : Int), (9757 : Int), (31 : Int)), ((9785 : Int), (9787 : Int), (30 : Int)), ((9977 : Int), (9977 : Int), (31 : Int)), ((9994 : Int), (9997 : Int), (31 : Int)), ((10082 : Int), (10083 : Int), (23 : Int)), ((10084 : Int), (10084 : Int), (30 : Int)), ((10214 : Int), (10214 : Int), (21 : Int)), ((10215 : Int), (10215 : Int), (19 : Int)), ((10216 : Int), (10216 : Int), (21 : Int)), ((10217 : Int), (10217 : Int), (19 : Int)), ((10218 : Int), (10218 : Int), (21 : Int)), ((10219 : Int), (10219 : Int), (19 : Int)), ((10627 : Int), (10627 : Int), (21 : Int)), ((10628 : Int), (10628 : Int), (19 : Int)), ((11904 : Int), (12287 : Int), (30 : Int)), ((12288 : Int), (12288 : Int), (14 : Int)), ((12289 : Int), (12290 : Int), (19 : Int)), ((12291 : Int), (12292 : Int), (30 : Int)), ((12293 : Int), (12293 : Int), (18 : Int)), ((12294 : Int), (12295 : Int), (30 : Int)), ((12296 : Int), (12296 : Int), (21 : Int)), ((12297 : Int), (12297 : Int), (19 : Int)), ((12298 : Int), (12298 : Int), (21 : Int)), ((12299 : Int), (12299 : Int), (19 : Int)), ((12300 : Int), (12300 : Int), (21 : Int)), ((12301 : Int), (12301 : Int), (19 : Int)), ((12302 : Int), (12302 : Int), (21 : Int)), ((12303 : Int), (12303 : Int), (19 : Int)), ((12304 : Int), (12304 : Int), (21 : Int)), ((12305 : Int), (12305 : Int), (19 : Int)), ((12306 : Int), (12307 : Int), (30 : Int)), ((12308 : Int), (12308 : Int), (21 : Int)), ((12309 : Int), (12309 : Int), (19 : Int)), ((12310 : Int), (12310 : Int), (21 : Int)), ((12311 : Int), (12311 : Int), (19 : Int)), ((12316 : Int), (12316 : Int), (18 : Int)), ((12317 : Int), (12317 : Int), (21 : Int)), ((12318 : Int), (12319 : Int), (19 : Int)), ((12320 : Int), (12329 : Int), (30 : Int)), ((12330 : Int), (12335 : Int), (3 : Int)), ((12336 : Int), (12346 : Int), (30 : Int)), ((12347 : Int), (12348 : Int), (18 : Int)), ((12353 : Int), (12353 : Int), (42 : Int)), ((12354 : Int), (12354 : Int), (30 : Int)), ((12355 : Int), (12355 : Int), (42 : Int)), ((12356 : Int), (12356 : Int), (30 : Int)), ((12357 : Int), (12357 : Int), (42 : Int)), ((12358 : Int), (12358 : Int), (30 : Int)), ((12359 : Int), (12359 : Int), (42 : Int)), ((12360 : Int), (12360 : Int), (30 : Int)), ((12361 : Int), (12361 : Int), (42 : Int)), ((12362 : Int), (12386 : Int), (30 : Int)), ((12387 : Int), (12387 : Int), (42 : Int)), ((12388 : Int), (12418 : Int), (30 : Int)), ((12419 : Int), (12419 : Int), (42 : Int)), ((12420 : Int), (12420 : Int), (30 : Int)), ((12421 : Int), (12421 : Int), (42 : Int)), ((12422 : Int), (12422 : Int), (30 : Int)), ((12423 : Int), (12423 : Int), (42 : Int)), ((12424 : Int), (12440 : Int), (30 : Int)), ((12441 : Int), (12442 : Int), (3 : Int)), ((12443 : Int), (12446 : Int), (18 : Int)), ((12447 : Int), (12447 : Int), (30 : Int)), ((12448 : Int), (12448 : Int), (18 : Int)), ((12449 : Int), (12449 : Int), (42 : Int)), ((12450 : Int), (12482 : Int), (30 : Int)), ((12483 : Int), (12483 : Int), (42 : Int)), ((12484 : Int), (12538 : Int), (30 : Int)), ((12539 : Int), (12539 : Int), (18 : Int)), ((12540 : Int), (12540 : Int), (42 : Int)), ((12541 : Int), (12542 : Int), (18 : Int)), ((12543 : Int), (12543 : Int), (30 : Int)), ((12549 : Int), (19903 : Int), (30 : Int)), ((19968 : Int), (40980 : Int), (30 : Int)), ((40981 : Int), (40981 : Int), (18 : Int)), ((40982 : Int), (42191 : Int), (30 : Int)), ((55296 : Int), (57343 : Int), (41 : Int)), ((63744 : Int), (64255 : Int), (30 : Int)), ((64285 : Int), (64285 : Int), (2 : Int)), ((64286 : Int), (64286 : Int), (3 : Int)), ((64287 : Int), (64296 : Int), (2 : Int)), ((64297 : Int), (64297 : Int), (1 : Int)), ((64298 : Int), (64335 : Int), (2 : Int)), ((64336 : Int), (65019 : Int), (1 : Int)), ((65020 : Int), (65020 : Int), (28 : Int)), ((65024 : Int), (65039 : Int), (3 : Int)), ((65040 : Int), (65040 : Int), (25 : Int)), ((65043 : Int), (65044 : Int), (25 : Int)), ((65056 : Int), (65071 : Int), (3 : Int)), ((65136 : Int), (65276 : Int), (1 : Int)), ((65279 : Int), (65279 : Int), (11 : Int)), ((65281 : Int), (65281 : Int), (23 : Int)), ((65282 : Int), (65283 : Int), (30 : Int)), ((65284 : Int), (65284 : Int), (29 : Int)), ((65285 : Int), (65285 : Int), (28 : Int)), ((65288 : Int), (65288 : Int), (21 : Int)), ((65289 : Int), (65289 : Int), (19 : Int)), ((65292 : Int), (65292 : Int), (19 : Int)), ((65294 : Int), (65294 : Int), (19 : Int)), ((65296 : Int), (65305 : Int), (30 : Int)), ((65306 : Int), (65307 : Int), (18 : Int)), ((65311 : Int), (65311 : Int), (23 : Int)), ((65313 : Int), (65338 : Int), (30 : Int)), ((65339 : Int), (65339 : Int), (21 : Int)), ((65341 : Int), (65341 : Int), (19 : Int)), ((65345 : Int), (65370 : Int), (30 : Int)), ((65371 : Int), (65371 : Int), (21 : Int)), ((65373 : Int), (65373 : Int), (19 : Int)), ((65377 : Int), (65377 : Int), (19 : Int)), ((65378 : Int), (65378 : Int), (21 : Int)), ((65379 : Int), (65380 : Int), (19 : Int)), ((65532 : Int), (65532 : Int), (13 : Int)), ((65533 : Int), (65533 : Int), (39 : Int)), ((127462 : Int), (127487 : Int), (33 : Int)), ((127744 : Int), (127876 : Int), (30 : Int)), ((127877 : Int), (127877 : Int), (31 : Int)), ((127878 : Int), (127994 : Int), (30 : Int)), ((127995 : Int), (127999 : Int), (32 : Int)), ((128000 : Int), (128065 : Int), (30 : Int)), ((128066 : Int), (128067 : Int), (31 : Int)), ((128068 : Int), (128069 : Int), (30 : Int)), ((128070 : Int), (128080 : Int), (31 : Int)), ((128081 : Int), (128101 : Int), (30 : Int)), ((128102 : Int), (128120 : Int), (31 : Int)), ((128121 : Int), (129791 : Int), (30 : Int)), ((131072 : Int), (262141 : Int), (30 : Int)), ((917505 : Int), (917631 : Int), (3 : Int)), ((917760 : Int), (917999 : Int), (3 : Int))])
noncomputable def linec_rows_F : Option (List (Int × Int × Int)) := (linec_rows_T).run
def linec_rows_L : List (Nat × LoopAnn) := []
noncomputable def linec_rows_C : List (Nat × Callee) := []
noncomputable def linec_rows_fun : Fun := ⟨[], [.row 67 Td], fun _ => linec_rows_F⟩
theorem linec_rows_ev (x : Tys.I []) : evFun G0 (of_ linec_rows_C) A0 (ol_ linec_rows_L) Try.f35 [] [.row 67 Td] x = linec_rows_T := by kernel_rfl
theorem linec_rows_ok : FunOk Try.prog 35 linec_rows_fun := evFun_ok mixed ctx0 (no_calls) Try.func35 (by kernel_rfl) _ (fun x => congrArg Tr.run (linec_rows_ev x)) (by kernel_rfl) (by kernel_rfl)
noncomputable def linec_Table_L4 (rs2 : List (Int × Int × Int)) (t9 : List (Int × Int × Int)) (t10 : Int) (t11 : Int) : Tr (Lap ((List (Int × Int × Int)) × (List (Int × Int × Int)) × Int × Int) (List (Int × Int × Int))) :=
  .br (decide (t11 < t10)) (
    .bnd (idx t9 t11) fun x_3 =>
    .bnd (idx ([x_3]) 0) fun x_4 =>
    .bnd (idx ([x_3]) 0) fun x_5 =>
    .bnd (idx ([x_3]) 0) fun x_6 =>
    .bnd (idx rs2 t11) fun x_7 =>
    .pure (.next (rs2.set (Int.toNat t11) (x_4.1, x_5.2.1, x_6.2.2), t9, t10, IntKind.i64.wrap (t11 + 1)))) (
    .pure (.done rs2))
noncomputable def linec_Table_T : Tr (List (Int × Int × Int)) :=
  .bnd linec_rows_F fun c_1 =>
  .bnd (mk 11728124029610 (0, (0, 0)) (c_1.length : Int)) fun r_2 =>
  .bnd (loopW (fun s => (linec_Table_L4 s.1 s.2.1 s.2.2.1 s.2.2.2).run) (r_2, c_1, (c_1.length : Int), 0)) fun l_8 =>
  .pure l_8
noncomputable def linec_Table_F : Option (List (Int × Int × Int)) := (linec_Table_T).run
def linec_Table_L : List (Nat × LoopAnn) := [(4, { head := [.srow 2 1000002 69 true Td, .srow 9 1000009 67 true Td, .sv 10 true Th, .sv 11 true Th], xid := 0, out := [.srow 2 1000002 69 true Td], hasRet := false, res := [] })]
noncomputable def linec_Table_C : List (Nat × Callee) := [(35, .plain linec_rows_fun)]
noncomputable def linec_Table_fun : Fun := ⟨[], [.row 69 Td], fun _ => linec_Table_F⟩
theorem linec_Table_ev (x : Tys.I []) : evFun G0 (of_ linec_Table_C) A0 (ol_ linec_Table_L) Try.f28 [] [.row 69 Td] x = linec_Table_T := by kernel_rfl
theorem linec_Table_ok : FunOk Try.prog 28 linec_Table_fun := evFun_ok mixed ctx0 (pc linec_rows_ok (no_calls)) Try.func28 (by kernel_rfl) _ (fun x => congrArg Tr.run (linec_Table_ev x)) (by kernel_rfl) (by kernel_rfl)
noncomputable def linec_syllable_T (r0 : Int) : Tr Int :=
  .br (((IntKind.i32.wrap (r0 - 44032)).tmod 28) == 0) (
    .pure 37) (
    .pure 38)
noncomputable def linec_syllable_F (r0 : Int) : Option Int := (linec_syllable_T r0).run
def linec_syllable_L : List (Nat × LoopAnn) := []
noncomputable def linec_syllable_C : List (Nat × Callee) := []
noncomputable def linec_syllable_fun : Fun := ⟨[Tj], [.v Ti], fun x => linec_syllable_F x.1⟩
theorem linec_syllable_ev (x : Tys.I [Tj]) : evFun G0 (of_ linec_syllable_C) A0 (ol_ linec_syllable_L) Try.f29 [Tj] [.v Ti] x = linec_syllable_T x.1 := by kernel_rfl
theorem linec_syllable_ok : FunOk Try.prog 29 linec_syllable_fun := evFun_ok mixed ctx0 (no_calls) Try.func29 (by kernel_rfl) _ (fun x => congrArg Tr.run (linec_syllable_ev x)) (by kernel_rfl) (by kernel_rfl)
noncomputable def ranges_Find_L2 (rs0 : List (Int × Int × Int)) (r1 : Int) (other2 : Int) (from7 : Int) (to8 : Int) : Tr (Lap ((List (Int × Int × Int)) × Int × Int × Int × Int) (Sum Int Int)) :=
  .br (decide (from7 < to8)) (
    .bnd (idx rs0 (IntKind.i64.wrap ((IntKind.i64.wrap (from7 + to8)).tdiv 2))) fun x_1 =>
    .br (decide (r1 < x_1.1)) (
      .pure (.next (rs0, r1, other2, from7, IntKind.i64.wrap ((IntKind.i64.wrap (from7 + to8)).tdiv 2)))) (
      .bnd (idx rs0 (IntKind.i64.wrap ((IntKind.i64.wrap (from7 + to8)).tdiv 2))) fun x_2 =>
      .br (decide (r1 > x_2.2.1)) (
        .pure (.next (rs0, r1, other2, IntKind.i64.wrap ((IntKind.i64.wrap ((IntKind.i64.wrap (from7 + to8)).tdiv 2)) + 1), to8))) (
        .bnd (idx rs0 (IntKind.i64.wrap ((IntKind.i64.wrap (from7 + to8)).tdiv 2))) fun x_3 =>
        .pure (.done (.inr x_3.2.2))))) (
    .pure (.done (.inl other2)))
noncomputable def ranges_Find_T (rs0 : List (Int × Int × Int)) (r1 : Int) (other2 : Int) : Tr Int :=
  .alt (loopW (fun s => (ranges_Find_L2 s.1 s.2.1 s.2.2.1 s.2.2.2.1 s.2.2.2.2).run) (rs0, r1, other2, 0, (rs0.length : Int))) (fun l_4 =>
    .pure l_4) (fun l_5 =>
    .pure l_5)
noncomputable def ranges_Find_F (rs0 : List (Int × Int × Int)) (r1 : Int) (other2 : Int) : Option Int := (ranges_Find_T rs0 r1 other2).run
def ranges_Find_L : List (Nat × LoopAnn) := [(2, { head := [.sv 0 false (.sl Td), .sv 1 false Tj, .sv 2 false Ti, .sv 7 true Th, .sv 8 true Th], xid := 0, out := [.sv 2 false Ti], hasRet := true, res := [.sv 6 false Ti] })]
noncomputable def ranges_Find_C : List (Nat × Callee) := []
noncomputable def ranges_Find_fun : Fun := ⟨[.sl Td, Tj, Ti], [.v Ti], fun x => ranges_Find_F x.1 x.2.1 x.2.2.1⟩
theorem ranges_Find_ev (x : Tys.I [.sl Td, Tj, Ti]) : evFun G0 (of_ ranges_Find_C) A0 (ol_ ranges_Find_L) Try.f30 [.sl Td, Tj, Ti] [.v Ti] x = ranges_Find_T x.1 x.2.1 x.2.2.1 := by kernel_rfl
theorem ranges_Find_ok : FunOk Try.prog 30 ranges_Find_fun := evFun_ok mixed ctx0 (no_calls) Try.func30 (by kernel_rfl) _ (fun x => congrArg Tr.run (ranges_Find_ev x)) (by kernel_rfl) (by kernel_rfl)
noncomputable def linec_Of_L4 (table3 : List (Int × Int × Int)) (cs4 : List Int) (t11 : List Int) (t12 : Int) (t13 : Int) : Tr (Lap ((List (Int × Int × Int)) × List Int × List Int × Int × Int) (List Int)) :=
  .br (decide (t13 < t12)) (
    .bnd (idx t11 t13) fun x_3 =>
    .br (decide (44032 ≤ x_3)) (
      .br (decide (x_3 ≤ 55203)) (
        .bnd (linec_syllable_F x_3) fun c_4 =>
        .bnd (idx cs4 t13) fun x_5 =>
        .pure (.next (table3, cs4.set (Int.toNat t13) c_4, t11, t12, IntKind.i64.wrap (t13 + 1)))) (
        .bnd (ranges_Find_F table3 x_3 0) fun c_6 =>
        .bnd (idx cs4 t13) fun x_7 =>
        .pure (.next (table3, cs4.set (Int.toNat t13) c_6, t11, t12, IntKind.i64.wrap (t13 + 1))))) (
      .bnd (ranges_Find_F table3 x_3 0) fun c_8 =>
      .bnd (idx cs4 t13) fun x_9 =>
      .pure (.next (table3, cs4.set (Int.toNat t13) c_8, t11, t12, IntKind.i64.wrap (t13 + 1))))) (
    .pure (.done cs4))
noncomputable def linec_Of_T (rs0 : List Int) : Tr (List Int) :=
  .bnd linec_Table_F fun c_1 =>
  .bnd (mk 140737488355328 0 (rs0.length : Int)) fun r_2 =>
  .bnd (loopW (fun s => (linec_Of_L4 s.1 s.2.1 s.2.2.1 s.2.2.2.1 s.2.2.2.2).run) (c_1, r_2, rs0, (rs0.length : Int), 0)) fun l_10 =>
  .pure l_10
noncomputable def linec_Of_F (rs0 : List Int) : Option (List Int) := (linec_Of_T rs0).run
def linec_Of_L : List (Nat × LoopAnn) := [(4, { head := [.srow 3 1000003 69 true Td, .srow 4 1000004 40 true Ti, .sv 11 false Tg, .sv 12 true Th, .sv 13 true Th], xid := 0, out := [.srow 4 1000004 40 true Ti], hasRet := false, res := [] })]
noncomputable def linec_Of_C : List (Nat × Callee) := [(28, .plain linec_Table_fun), (29, .plain linec_syllable_fun), (30, .plain ranges_Find_fun)]
noncomputable def linec_Of_fun : Fun := ⟨[.sl Tj], [.row 40 Ti], fun x => linec_Of_F x.1⟩
theorem linec_Of_ev (x : Tys.I [.sl Tj]) : evFun G0 (of_ linec_Of_C) A0 (ol_ linec_Of_L) Try.f20 [.sl Tj] [.row 40 Ti] x = linec_Of_T x.1 := by kernel_rfl
theorem linec_Of_ok : FunOk Try.prog 20 linec_Of_fun := evFun_ok mixed ctx0 (pc linec_Table_ok (pc linec_syllable_ok (pc ranges_Find_ok (no_calls)))) Try.func20 (by kernel_rfl) _ (fun x => congrArg Tr.run (linec_Of_ev x)) (by kernel_rfl) (by kernel_rfl)
noncomputable def cellw_rows_T : Tr (List (Int × Int × Int)) :=
  .pure ([((0 : Int), (31 : Int), (0 : Int)), ((127 : Int), (159 : Int), (0 : Int)), ((173 : Int), (173 : Int), (0 : Int)), ((768 : Int), (879 : Int), (0 : Int)), ((1155 : Int), (1161 : Int), (0 : Int)), ((1425 : Int), (1469 : Int), (0 : Int)), ((1471 : Int), (1471 : Int), (0 : Int)), ((1473 : Int), (1474 : Int), (0 : Int)), ((1476 : Int), (1477 : Int), (0 : Int)), ((1479 : Int), (1479 : Int), (0 : Int)), ((1536 : Int), (1541 : Int), (0 : Int)), ((1552 : Int), (1562 : Int), (0 : Int)), ((1564 : Int), (1564 : Int), (0 : Int)), ((1611 : Int), (1631 : Int), (0 : Int)), ((1648 : Int), (1648 : Int), (0 : Int)), ((1750 : Int), (1757 : Int), (0 : Int)), ((1759 : Int), (1764 : Int), (0 : Int)), ((1767 : Int), (1768 : Int), (0 : Int)), ((1770 : Int), (1773 : Int), (0 : Int)), ((1809 : Int), (1809 : Int), (0 : Int)), ((1840 : Int), (1866 : Int), (0 : Int)), ((1958 : Int), (1968 : Int), (0 : Int)), ((2027 : Int), (2035 : Int), (0 : Int)), ((2250 : Int), (2306 : Int), (0 : Int)), ((2362 : Int), (2362 : Int), (0 : Int)), ((2364 : Int), (2364 : Int), (0 : Int)), ((2369 : Int), (2376 : Int), (0 : Int)), ((2381 : Int), (2381 : Int), (0 : Int)), ((3633 : Int), (3633 : Int), (0 : Int)), ((3636 : Int), (3642 : Int), (0 : Int)), ((3655 : Int), (3662 : Int), (0 : Int)), ((4352 : Int), (4447 : Int), (2 : Int)), ((4448 : Int), (4607 : Int), (0 : Int)), ((8203 : Int), (8207 : Int), (0 : Int)), ((8232 : Int), (8238 : Int), (0 : Int)), ((8288 : Int), (8303 : Int), (0 : Int)), ((8400 : Int), (8432 : Int), (0 : Int)), ((8986 : Int), (8987 : Int), (2 : Int)), ((9001 : Int), (9002 : Int), (2 : Int)), ((9200 : Int), (9200 : Int), (2 : Int)), ((9203 : Int), (9203 : Int), (2 : Int)), ((9748 : Int), (9749 : Int), (2 : Int)), ((11904 : Int), (12287 : Int), (2 : Int)), ((12288 : Int), (12329 : Int), (2 : Int)), ((12330 : Int), (12333 : Int), (0 : Int)), ((12334 : Int), (12350 : Int), (2 : Int)), ((12353 : Int), (12440 : Int), (2 : Int)), ((12441 : Int), (12442 : Int), (0 : Int)), ((12443 : Int), (13311 : Int), (2 : Int)), ((13312 : Int), (19903 : Int), (2 : Int)), ((19968 : Int), (42191 : Int), (2 : Int)), ((43360 : Int), (43391 : Int), (2 : Int)), ((44032 : Int), (55203 : Int), (2 : Int)), ((63744 : Int), (64255 : Int), (2 : Int)), ((64286 : Int), (64286 : Int), (0 : Int)), ((65024 : Int), (65039 : Int), (0 : Int)), ((65040 : Int), (65049 : Int), (2 : Int)), ((65056 : Int), (65071 : Int), (0 : Int)), ((65072 : Int), (65135 : Int), (2 : Int)), ((65279 : Int), (65279 : Int), (0 : Int)), ((65281 : Int), (65376 : Int), (2 : Int)), ((65504 : Int), (65510 : Int), (2 : Int)), ((127462 : Int), (127487 : Int), (1 : Int)), ((127744 : Int), (128591 : Int), (2 : Int)), ((128640 : Int), (128767 : Int), (2 : Int)), ((129280 : Int), (129791 : Int), (2 : Int)), ((131072 : Int), (262141 : Int), (2 : Int)), ((917505 : Int), (917631 : Int), (0 : Int)), ((917760 : Int), (917999 : Int), (0 : Int))])
noncomputable def cellw_rows_F : Option (List (Int × Int × Int)) := (cellw_rows_T).run
def cellw_rows_L : List (Nat × LoopAnn) := []
noncomputable def cellw_rows_C : List (Nat × Callee) := []
noncomputable def cellw_rows_fun : Fun := ⟨[], [.row 73 Td], fun _ => cellw_rows_F⟩
theorem cellw_rows_ev (x : Tys.I []) : evFun G0 (of_ cellw_rows_C) A0 (ol_ cellw_rows_L) Try.f36 [] [.row 73 Td] x = cellw_rows_T := by kernel_rfl
theorem cellw_rows_ok : FunOk Try.prog 36 cellw_rows_fun := evFun_ok mixed ctx0 (no_calls) Try.func36 (by kernel_rfl) _ (fun x => congrArg Tr.run (cellw_rows_ev x)) (by kernel_rfl) (by kernel_rfl)
noncomputable def cellw_Table_L4 (rs2 : List (Int × Int × Int)) (t9 : List (Int × Int × Int)) (t10 : Int) (t11 : Int) : Tr (Lap ((List (Int × Int × Int)) × (List (Int × Int × Int)) × Int × Int) (List (Int × Int × Int))) :=
  .br (decide (t11 < t10)) (
    .bnd (idx t9 t11) fun x_3 =>
    .bnd (idx ([x_3]) 0) fun x_4 =>
    .bnd (idx ([x_3]) 0) fun x_5 =>
    .bnd (idx ([x_3]) 0) fun x_6 =>
    .bnd (idx rs2 t11) fun x_7 =>
    .pure (.next (rs2.set (Int.toNat t11) (x_4.1, x_5.2.1, x_6.2.2), t9, t10, IntKind.i64.wrap (t11 + 1)))) (
    .pure (.done rs2))
noncomputable def cellw_Table_T : Tr (List (Int × Int × Int)) :=
  .bnd cellw_rows_F fun c_1 =>
  .bnd (mk 11728124029610 (0, (0, 0)) (c_1.length : Int)) fun r_2 =>
  .bnd (loopW (fun s => (cellw_Table_L4 s.1 s.2.1 s.2.2.1 s.2.2.2).run) (r_2, c_1, (c_1.length : Int), 0)) fun l_8 =>
  .pure l_8
noncomputable def cellw_Table_F : Option (List (Int × Int × Int)) := (cellw_Table_T).run
def cellw_Table_L : List (Nat × LoopAnn) := [(4, { head := [.srow 2 1000002 69 true Td, .srow 9 1000009 73 true Td, .sv 10 true Th, .sv 11 true Th], xid := 0, out := [.srow 2 1000002 69 true Td], hasRet := false, res := [] })]
noncomputable def cellw_Table_C : List (Nat × Callee) := [(36, .plain cellw_rows_fun)]
noncomputable def cellw_Table_fun : Fun := ⟨[], [.row 69 Td], fun _ => cellw_Table_F⟩
theorem cellw_Table_ev (x : Tys.I []) : evFun G0 (of_ cellw_Table_C) A0 (ol_ cellw_Table_L) Try.f31 [] [.row 69 Td] x = cellw_Table_T := by kernel_rfl
theorem cellw_Table_ok : FunOk Try.prog 31 cellw_Table_fun := evFun_ok mixed ctx0 (pc cellw_rows_ok (no_calls)) Try.func31 (by kernel_rfl) _ (fun x => congrArg Tr.run (cellw_Table_ev x)) (by kernel_rfl) (by kernel_rfl)
noncomputable def cellw_Of_L4 (table3 : List (Int × Int × Int)) (ws4 : List Int) (t11 : List Int) (t12 : Int) (t13 : Int) : Tr (Lap ((List (Int × Int × Int)) × List Int × List Int × Int × Int) (List Int)) :=
  .br (decide (t13 < t12)) (
    .bnd (idx t11 t13) fun x_3 =>
    .br (decide (0 ≤ x_3)) (
      .br (decide (x_3 ≤ 1114111)) (
        .bnd (ranges_Find_F table3 x_3 1) fun c_4 =>
        .bnd (idx ws4 t13) fun x_5 =>
        .pure (.next (table3, ws4.set (Int.toNat t13) (IntKind.i64.wrap c_4), t11, t12, IntKind.i64.wrap (t13 + 1)))) (
        .pure (.next (table3, ws4, t11, t12, IntKind.i64.wrap (t13 + 1))))) (
      .pure (.next (table3, ws4, t11, t12, IntKind.i64.wrap (t13 + 1))))) (
    .pure (.done ws4))
noncomputable def cellw_Of_T (rs0 : List Int) : Tr (List Int) :=
  .bnd cellw_Table_F fun c_1 =>
  .bnd (mk 17592186044416 0 (rs0.length : Int)) fun r_2 =>
  .bnd (loopW (fun s => (cellw_Of_L4 s.1 s.2.1 s.2.2.1 s.2.2.2.1 s.2.2.2.2).run) (c_1, r_2, rs0, (rs0.length : Int), 0)) fun l_6 =>
  .pure l_6
noncomputable def cellw_Of_F (rs0 : List Int) : Option (List Int) := (cellw_Of_T rs0).run
def cellw_Of_L : List (Nat × LoopAnn) := [(4, { head := [.srow 3 1000003 69 true Td, .srow 4 1000004 3 true Th, .sv 11 false Tg, .sv 12 true Th, .sv 13 true Th], xid := 0, out := [.srow 4 1000004 3 true Th], hasRet := false, res := [] })]
noncomputable def cellw_Of_C : List (Nat × Callee) := [(31, .plain cellw_Table_fun), (30, .plain ranges_Find_fun)]
noncomputable def cellw_Of_fun : Fun := ⟨[.sl Tj], [.row 3 Th], fun x => cellw_Of_F x.1⟩
theorem cellw_Of_ev (x : Tys.I [.sl Tj]) : evFun G0 (of_ cellw_Of_C) A0 (ol_ cellw_Of_L) Try.f21 [.sl Tj] [.row 3 Th] x = cellw_Of_T x.1 := by kernel_rfl
theorem cellw_Of_ok : FunOk Try.prog 21 cellw_Of_fun := evFun_ok mixed ctx0 (pc cellw_Table_ok (pc ranges_Find_ok (no_calls))) Try.func21 (by kernel_rfl) _ (fun x => congrArg Tr.run (cellw_Of_ev x)) (by kernel_rfl) (by kernel_rfl)
noncomputable def cluster_isMark_T (c0 : Int) (width1 : Int) : Tr Bool :=
  .br (c0 == 3) (
    .pure true) (
    .br (c0 == 4) (
      .pure true) (
      .br (c0 == 40) (
        .pure (width1 == 0)) (
        .pure false)))
noncomputable def cluster_isMark_F (c0 : Int) (width1 : Int) : Option Bool := (cluster_isMark_T c0 width1).run
def cluster_isMark_L : List (Nat × LoopAnn) := []
noncomputable def cluster_isMark_C : List (Nat × Callee) := []
noncomputable def cluster_isMark_fun : Fun := ⟨[Ti, Th], [.v .bool], fun x => cluster_isMark_F x.1 x.2.1⟩
theorem cluster_isMark_ev (x : Tys.I [Ti, Th]) : evFun G0 (of_ cluster_isMark_C) A0 (ol_ cluster_isMark_L) Try.f22 [Ti, Th] [.v .bool] x = cluster_isMark_T x.1 x.2.1 := by kernel_rfl
theorem cluster_isMark_ok : FunOk Try.prog 22 cluster_isMark_fun := evFun_ok mixed ctx0 (no_calls) Try.func22 (by kernel_rfl) _ (fun x => congrArg Tr.run (cluster_isMark_ev x)) (by kernel_rfl) (by kernel_rfl)
noncomputable def cluster_control_T (c0 : Int) : Tr Bool :=
  .br (c0 == 6) (
    .pure true) (
    .br (c0 == 7) (
      .pure true) (
      .br (c0 == 5) (
        .pure true) (
        .br (c0 == 8) (
          .pure true) (
          .br (c0 == 10) (
            .pure true) (
            .pure false)))))
noncomputable def cluster_control_F (c0 : Int) : Option Bool := (cluster_control_T c0).run
def cluster_control_L : List (Nat × LoopAnn) := []
noncomputable def cluster_control_C : List (Nat × Callee) := []
noncomputable def cluster_control_fun : Fun := ⟨[Ti], [.v .bool], fun x => cluster_control_F x.1⟩
theorem cluster_control_ev (x : Tys.I [Ti]) : evFun G0 (of_ cluster_control_C) A0 (ol_ cluster_control_L) Try.f32 [Ti] [.v .bool] x = cluster_control_T x.1 := by kernel_rfl
theorem cluster_control_ok : FunOk Try.prog 32 cluster_control_fun := evFun_ok mixed ctx0 (no_calls) Try.func32 (by kernel_rfl) _ (fun x => congrArg Tr.run (cluster_control_ev x)) (by kernel_rfl) (by kernel_rfl)
noncomputable def cluster_pictograph_T (c0 : Int) : Tr Bool :=
  .br (c0 == 30) (
    .pure true) (
    .br (c0 == 31) (
      .pure true) (
      .pure (c0 == 32)))
noncomputable def cluster_pictograph_F (c0 : Int) : Option Bool := (cluster_pictograph_T c0).run
def cluster_pictograph_L : List (Nat × LoopAnn) := []
noncomputable def cluster_pictograph_C : List (Nat × Callee) := []
noncomputable def cluster_pictograph_fun : Fun := ⟨[Ti], [.v .bool], fun x => cluster_pictograph_F x.1⟩
theorem cluster_pictograph_ev (x : Tys.I [Ti]) : evFun G0 (of_ cluster_pictograph_C) A0 (ol_ cluster_pictograph_L) Try.f33 [Ti] [.v .bool] x = cluster_pictograph_T x.1 := by kernel_rfl
theorem cluster_pictograph_ok : FunOk Try.prog 33 cluster_pictograph_fun := evFun_ok mixed ctx0 (no_calls) Try.func33 (by kernel_rfl) _ (fun x => congrArg Tr.run (cluster_pictograph_ev x)) (by kernel_rfl) (by kernel_rfl)
noncomputable def cluster_builds_T (a0 : Int) (c1 : Int) : Tr Bool :=
  .br (a0 == 34) (
    .br (c1 == 34) (
      .pure true) (
      .br (c1 == 35) (
        .pure true) (
        .br (c1 == 37) (
          .pure true) (
          .pure (c1 == 38))))) (
    .br (a0 == 35) (
      .br (c1 == 35) (
        .pure true) (
        .pure (c1 == 36))) (
      .br (a0 == 37) (
        .br (c1 == 35) (
          .pure true) (
          .pure (c1 == 36))) (
        .br (a0 == 36) (
          .pure (c1 == 36)) (
          .br (a0 == 38) (
            .pure (c1 == 36)) (
            .pure false)))))
noncomputable def cluster_builds_F (a0 : Int) (c1 : Int) : Option Bool := (cluster_builds_T a0 c1).run
def cluster_builds_L : List (Nat × LoopAnn) := []
noncomputable def cluster_builds_C : List (Nat × Callee) := []
noncomputable def cluster_builds_fun : Fun := ⟨[Ti, Ti], [.v .bool], fun x => cluster_builds_F x.1 x.2.1⟩
theorem cluster_builds_ev (x : Tys.I [Ti, Ti]) : evFun G0 (of_ cluster_builds_C) A0 (ol_ cluster_builds_L) Try.f34 [Ti, Ti] [.v .bool] x = cluster_builds_T x.1 x.2.1 := by kernel_rfl
theorem cluster_builds_ok : FunOk Try.prog 34 cluster_builds_fun := evFun_ok mixed ctx0 (no_calls) Try.func34 (by kernel_rfl) _ (fun x => congrArg Tr.run (cluster_builds_ev x)) (by kernel_rfl) (by kernel_rfl)
noncomputable def cluster_past_parts_T (p0 : Int × Bool × Int) (c1 : Int) (mark2 : Bool) : Tr ((Int × Bool × Int) × Bool) :=
  .bnd (idx ([p0]) 0) fun x_1 =>
  .br (x_1.1 == 6) (
    .br (c1 == 7) (
      .pure (p0, false)) (
      .bnd (idx ([p0]) 0) fun x_2 =>
      .bnd (cluster_control_F x_2.1) fun c_3 =>
      .br c_3 (
        .pure (p0, true)) (
        .bnd (cluster_control_F c1) fun c_4 =>
        .br c_4 (
          .pure (p0, true)) (
          .br mark2 (
            .pure (p0, false)) (
            .bnd (cluster_pictograph_F c1) fun c_5 =>
            .br c_5 (
              .bnd (idx ([p0]) 0) fun x_6 =>
              .br (x_6.1 == 4) (
                .bnd (idx ([p0]) 0) fun x_7 =>
                .br x_7.2.1 (
                  .pure (p0, false)) (
                  .br (c1 == 33) (
                    .bnd (idx ([p0]) 0) fun x_8 =>
                    .br (x_8.2.2 == 1) (
                      .pure (p0, false)) (
                      .bnd (idx ([p0]) 0) fun x_9 =>
                      .bnd (cluster_builds_F x_9.1 c1) fun c_10 =>
                      .pure (p0, !c_10))) (
                    .bnd (idx ([p0]) 0) fun x_11 =>
                    .bnd (cluster_builds_F x_11.1 c1) fun c_12 =>
                    .pure (p0, !c_12)))) (
                .br (c1 == 33) (
                  .bnd (idx ([p0]) 0) fun x_13 =>
                  .br (x_13.2.2 == 1) (
                    .pure (p0, false)) (
                    .bnd (idx ([p0]) 0) fun x_14 =>
                    .bnd (cluster_builds_F x_14.1 c1) fun c_15 =>
                    .pure (p0, !c_15))) (
                  .bnd (idx ([p0]) 0) fun x_16 =>
                  .bnd (cluster_builds_F x_16.1 c1) fun c_17 =>
                  .pure (p0, !c_17)))) (
              .br (c1 == 33) (
                .bnd (idx ([p0]) 0) fun x_18 =>
                .br (x_18.2.2 == 1) (
                  .pure (p0, false)) (
                  .bnd (idx ([p0]) 0) fun x_19 =>
                  .bnd (cluster_builds_F x_19.1 c1) fun c_20 =>
                  .pure (p0, !c_20))) (
                .bnd (idx ([p0]) 0) fun x_21 =>
                .bnd (cluster_builds_F x_21.1 c1) fun c_22 =>
                .pure (p0, !c_22)))))))) (
    .bnd (idx ([p0]) 0) fun x_23 =>
    .bnd (cluster_control_F x_23.1) fun c_24 =>
    .br c_24 (
      .pure (p0, true)) (
      .bnd (cluster_control_F c1) fun c_25 =>
      .br c_25 (
        .pure (p0, true)) (
        .br mark2 (
          .pure (p0, false)) (
          .bnd (cluster_pictograph_F c1) fun c_26 =>
          .br c_26 (
            .bnd (idx ([p0]) 0) fun x_27 =>
            .br (x_27.1 == 4) (
              .bnd (idx ([p0]) 0) fun x_28 =>
              .br x_28.2.1 (
                .pure (p0, false)) (
                .br (c1 == 33) (
                  .bnd (idx ([p0]) 0) fun x_29 =>
                  .br (x_29.2.2 == 1) (
                    .pure (p0, false)) (
                    .bnd (idx ([p0]) 0) fun x_30 =>
                    .bnd (cluster_builds_F x_30.1 c1) fun c_31 =>
                    .pure (p0, !c_31))) (
                  .bnd (idx ([p0]) 0) fun x_32 =>
                  .bnd (cluster_builds_F x_32.1 c1) fun c_33 =>
                  .pure (p0, !c_33)))) (
              .br (c1 == 33) (
                .bnd (idx ([p0]) 0) fun x_34 =>
                .br (x_34.2.2 == 1) (
                  .pure (p0, false)) (
                  .bnd (idx ([p0]) 0) fun x_35 =>
                  .bnd (cluster_builds_F x_35.1 c1) fun c_36 =>
                  .pure (p0, !c_36))) (
                .bnd (idx ([p0]) 0) fun x_37 =>
                .bnd (cluster_builds_F x_37.1 c1) fun c_38 =>
                .pure (p0, !c_38)))) (
            .br (c1 == 33) (
              .bnd (idx ([p0]) 0) fun x_39 =>
              .br (x_39.2.2 == 1) (
                .pure (p0, false)) (
                .bnd (idx ([p0]) 0) fun x_40 =>
                .bnd (cluster_builds_F x_40.1 c1) fun c_41 =>
                .pure (p0, !c_41))) (
              .bnd (idx ([p0]) 0) fun x_42 =>
              .bnd (cluster_builds_F x_42.1 c1) fun c_43 =>
              .pure (p0, !c_43)))))))
noncomputable def cluster_past_parts_F (p0 : Int × Bool × Int) (c1 : Int) (mark2 : Bool) : Option ((Int × Bool × Int) × Bool) := (cluster_past_parts_T p0 c1 mark2).run
def cluster_past_parts_L : List (Nat × LoopAnn) := []
noncomputable def cluster_past_parts_C : List (Nat × Callee) := [(32, .plain cluster_control_fun), (33, .plain cluster_pictograph_fun), (34, .plain cluster_builds_fun)]
noncomputable def cluster_past_parts_fun : BFun := ⟨48, (.st (.pair Ti (.pair .bool Th))), [Ti, .bool], [.v .bool], fun s x => cluster_past_parts_F s x.1 x.2.1⟩
theorem cluster_past_parts_ev (s : Int × Bool × Int) (x : Tys.I [Ti, .bool]) : evFunB G0 (of_ cluster_past_parts_C) A0 (ol_ cluster_past_parts_L) Try.f23 48 (.st (.pair Ti (.pair .bool Th))) [Ti, .bool] [.v .bool] s x = cluster_past_parts_T s x.1 x.2.1 := by kernel_rfl
theorem cluster_past_parts_ok : BoxOk Try.prog 23 cluster_past_parts_fun := evFunB_ok mixed ctx0 (pc cluster_control_ok (pc cluster_pictograph_ok (pc cluster_builds_ok (no_calls)))) Try.func23 (by kernel_rfl) rfl _ (fun s x => congrArg Tr.run (cluster_past_parts_ev s x)) (by kernel_rfl)
noncomputable def cluster_past_add_T (p0 : Int × Bool × Int) (c1 : Int) (mark2 : Bool) (broken3 : Bool) : Tr ((Int × Bool × Int) × Unit) :=
  .br broken3 (
    .bnd (idx ([p0]) 0) fun x_1 =>
    .br (c1 == 33) (
      .bnd (idx ([(x_1.1, x_1.2.1, (0 : Int))]) 0) fun x_2 =>
      .bnd (idx ([(x_1.1, x_1.2.1, (0 : Int))]) 0) fun x_3 =>
      .bnd (idx ([(x_3.1, x_3.2.1, IntKind.i64.wrap (x_2.2.2 + 1))]) 0) fun x_4 =>
      .bnd (cluster_pictograph_F c1) fun c_5 =>
      .br c_5 (
        .bnd (idx ([(c1, x_4.2)]) 0) fun x_6 =>
        .pure ((x_6.1, true, x_6.2.2), ())) (
        .bnd (idx ([(c1, x_4.2)]) 0) fun x_7 =>
        .br x_7.2.1 (
          .br mark2 (
            .bnd (idx ([(c1, x_4.2)]) 0) fun x_8 =>
            .pure ((x_8.1, !broken3, x_8.2.2), ())) (
            .bnd (idx ([(c1, x_4.2)]) 0) fun x_9 =>
            .pure ((x_9.1, false, x_9.2.2), ()))) (
          .bnd (idx ([(c1, x_4.2)]) 0) fun x_10 =>
          .pure ((x_10.1, false, x_10.2.2), ())))) (
      .bnd (idx ([(x_1.1, x_1.2.1, (0 : Int))]) 0) fun x_11 =>
      .bnd (cluster_pictograph_F c1) fun c_12 =>
      .br c_12 (
        .bnd (idx ([(c1, x_11.2)]) 0) fun x_13 =>
        .pure ((x_13.1, true, x_13.2.2), ())) (
        .bnd (idx ([(c1, x_11.2)]) 0) fun x_14 =>
        .br x_14.2.1 (
          .br mark2 (
            .bnd (idx ([(c1, x_11.2)]) 0) fun x_15 =>
            .pure ((x_15.1, !broken3, x_15.2.2), ())) (
            .bnd (idx ([(c1, x_11.2)]) 0) fun x_16 =>
            .pure ((x_16.1, false, x_16.2.2), ()))) (
          .bnd (idx ([(c1, x_11.2)]) 0) fun x_17 =>
          .pure ((x_17.1, false, x_17.2.2), ()))))) (
    .br (c1 == 33) (
      .bnd (idx ([p0]) 0) fun x_18 =>
      .bnd (idx ([p0]) 0) fun x_19 =>
      .bnd (idx ([(x_19.1, x_19.2.1, IntKind.i64.wrap (x_18.2.2 + 1))]) 0) fun x_20 =>
      .bnd (cluster_pictograph_F c1) fun c_21 =>
      .br c_21 (
        .bnd (idx ([(c1, x_20.2)]) 0) fun x_22 =>
        .pure ((x_22.1, true, x_22.2.2), ())) (
        .bnd (idx ([(c1, x_20.2)]) 0) fun x_23 =>
        .br x_23.2.1 (
          .br mark2 (
            .bnd (idx ([(c1, x_20.2)]) 0) fun x_24 =>
            .pure ((x_24.1, !broken3, x_24.2.2), ())) (
            .bnd (idx ([(c1, x_20.2)]) 0) fun x_25 =>
            .pure ((x_25.1, false, x_25.2.2), ()))) (
          .bnd (idx ([(c1, x_20.2)]) 0) fun x_26 =>
          .pure ((x_26.1, false, x_26.2.2), ())))) (
      .bnd (idx ([p0]) 0) fun x_27 =>
      .bnd (cluster_pictograph_F c1) fun c_28 =>
      .br c_28 (
        .bnd (idx ([(c1, x_27.2)]) 0) fun x_29 =>
        .pure ((x_29.1, true, x_29.2.2), ())) (
        .bnd (idx ([(c1, x_27.2)]) 0) fun x_30 =>
        .br x_30.2.1 (
          .br mark2 (
            .bnd (idx ([(c1, x_27.2)]) 0) fun x_31 =>
            .pure ((x_31.1, !broken3, x_31.2.2), ())) (
            .bnd (idx ([(c1, x_27.2)]) 0) fun x_32 =>
            .pure ((x_32.1, false, x_32.2.2), ()))) (
          .bnd (idx ([(c1, x_27.2)]) 0) fun x_33 =>
          .pure ((x_33.1, false, x_33.2.2), ())))))
noncomputable def cluster_past_add_F (p0 : Int × Bool × Int) (c1 : Int) (mark2 : Bool) (broken3 : Bool) : Option ((Int × Bool × Int) × Unit) := (cluster_past_add_T p0 c1 mark2 broken3).run
def cluster_past_add_L : List (Nat × LoopAnn) := []
noncomputable def cluster_past_add_C : List (Nat × Callee) := [(33, .plain cluster_pictograph_fun)]
noncomputable def cluster_past_add_fun : BFun := ⟨48, (.st (.pair Ti (.pair .bool Th))), [Ti, .bool, .bool], [], fun s x => cluster_past_add_F s x.1 x.2.1 x.2.2.1⟩
theorem cluster_past_add_ev (s : Int × Bool × Int) (x : Tys.I [Ti, .bool, .bool]) : evFunB G0 (of_ cluster_past_add_C) A0 (ol_ cluster_past_add_L) Try.f24 48 (.st (.pair Ti (.pair .bool Th))) [Ti, .bool, .bool] [] s x = cluster_past_add_T s x.1 x.2.1 x.2.2.1 := by kernel_rfl
theorem cluster_past_add_ok : BoxOk Try.prog 24 cluster_past_add_fun := evFunB_ok mixed ctx0 (pc cluster_pictograph_ok (no_calls)) Try.func24 (by kernel_rfl) rfl _ (fun s x => congrArg Tr.run (cluster_past_add_ev s x)) (by kernel_rfl)
noncomputable def cluster_Breaks_L6 (breaks3 : List Bool) (ws5 : List Int) (p6 : Int × Bool × Int) (t24 : List Int) (t25 : Int) (t26 : Int) : Tr (Lap (List Bool × List Int × (Int × Bool × Int) × List Int × Int × Int) (List Bool)) :=
  .br (decide (t26 < t25)) (
    .bnd (idx t24 t26) fun x_6 =>
    .bnd (idx ws5 t26) fun x_7 =>
    .bnd (cluster_isMark_F x_6 x_7) fun c_8 =>
    .br (decide (t26 > 0)) (
      .bnd (idx ([p6]) 0) fun x_9 =>
      .bnd (cluster_past_parts_F x_9 x_6 c_8) fun c_10 =>
      .bnd (idx breaks3 t26) fun x_11 =>
      .bnd (idx (breaks3.set (Int.toNat t26) c_10.2) t26) fun x_12 =>
      .bnd (idx ([c_10.1]) 0) fun x_13 =>
      .bnd (cluster_past_add_F x_13 x_6 c_8 x_12) fun c_14 =>
      .pure (.next (breaks3.set (Int.toNat t26) c_10.2, ws5, c_14.1, t24, t25, IntKind.i64.wrap (t26 + 1)))) (
      .bnd (idx breaks3 t26) fun x_15 =>
      .bnd (idx ([p6]) 0) fun x_16 =>
      .bnd (cluster_past_add_F x_16 x_6 c_8 x_15) fun c_17 =>
      .pure (.next (breaks3, ws5, c_17.1, t24, t25, IntKind.i64.wrap (t26 + 1))))) (
    .pure (.done breaks3))
noncomputable def cluster_Breaks_T (rs0 : List Int) : Tr (List Bool) :=
  .bnd (mk 140737488355328 false (IntKind.i64.wrap ((rs0.length : Int) + 1))) fun r_1 =>
  .bnd (idx r_1 0) fun x_2 =>
  .bnd (idx (r_1.set (Int.toNat 0) true) (rs0.length : Int)) fun x_3 =>
  .bnd (linec_Of_F rs0) fun c_4 =>
  .bnd (cellw_Of_F rs0) fun c_5 =>
  .bnd (loopW (fun s => (cluster_Breaks_L6 s.1 s.2.1 s.2.2.1 s.2.2.2.1 s.2.2.2.2.1 s.2.2.2.2.2).run) ((r_1.set (Int.toNat 0) true).set (Int.toNat (rs0.length : Int)) true, c_5, (0, false, 0), c_4, (c_4.length : Int), 0)) fun l_18 =>
  .pure l_18
noncomputable def cluster_Breaks_F (rs0 : List Int) : Option (List Bool) := (cluster_Breaks_T rs0).run
def cluster_Breaks_L : List (Nat × LoopAnn) := [(6, { head := [.srow 3 1000003 4 true .bool, .srow 5 1000005 3 true Th, .sbox 6 1000006 48 true (.st (.pair Ti (.pair .bool Th))), .srow 24 1000024 40 true Ti, .sv 25 true Th, .sv 26 true Th], xid := 0, out := [.srow 3 1000003 4 true .bool], hasRet := false, res := [] })]
noncomputable def cluster_Breaks_C : List (Nat × Callee) := [(20, .plain linec_Of_fun), (21, .plain cellw_Of_fun), (22, .plain cluster_isMark_fun), (23, .lbox cluster_past_parts_fun), (24, .lbox cluster_past_add_fun)]
noncomputable def cluster_Breaks_fun : Fun := ⟨[.sl Tj], [.row 4 .bool], fun x => cluster_Breaks_F x.1⟩
theorem cluster_Breaks_ev (x : Tys.I [.sl Tj]) : evFun G0 (of_ cluster_Breaks_C) ⟨[], [], [23, 24], [], [], []⟩ (ol_ cluster_Breaks_L) Try.f13 [.sl Tj] [.row 4 .bool] x = cluster_Breaks_T x.1 := by kernel_rfl
theorem cluster_Breaks_ok : FunOk Try.prog 13 cluster_Breaks_fun := evFun_ok mixed ctx0 (pc linec_Of_ok (pc cellw_Of_ok (pc cluster_isMark_ok (cons_calls (fb := .lbox cluster_past_parts_fun) cluster_past_parts_ok (fun h => by rfl) (cons_calls (fb := .lbox cluster_past_add_fun) cluster_past_add_ok (fun h => by rfl) (no_calls)))))) Try.func13 (by kernel_rfl) _ (fun x => congrArg Tr.run (cluster_Breaks_ev x)) (by kernel_rfl) (by kernel_rfl)
noncomputable def cluster_Of_L4 (spans3 : List (Int × Int)) (from4 : Int) (t8 : List Bool) (t9 : Int) (t10 : Int) : Tr (Lap ((List (Int × Int)) × Int × List Bool × Int × Int) (List (Int × Int))) :=
  .br (decide (t10 < t9)) (
    .bnd (idx t8 t10) fun x_2 =>
    .br x_2 (
      .br (decide (t10 > from4)) (
        .bnd (app 8796093022208 spans3 ([(from4, t10)])) fun r_3 =>
        .pure (.next (r_3, t10, t8, t9, IntKind.i64.wrap (t10 + 1)))) (
        .pure (.next (spans3, from4, t8, t9, IntKind.i64.wrap (t10 + 1))))) (
      .pure (.next (spans3, from4, t8, t9, IntKind.i64.wrap (t10 + 1))))) (
    .pure (.done spans3))
noncomputable def cluster_Of_T (rs0 : List Int) : Tr (List (Int × Int)) :=
  .bnd (cluster_Breaks_F rs0) fun c_1 =>
  .bnd (loopW (fun s => (cluster_Of_L4 s.1 s.2.1 s.2.2.1 s.2.2.2.1 s.2.2.2.2).run) ([], 0, c_1, (c_1.length : Int), 0)) fun l_4 =>
  .pure l_4
noncomputable def cluster_Of_F (rs0 : List Int) : Option (List (Int × Int)) := (cluster_Of_T rs0).run
def cluster_Of_L : List (Nat × LoopAnn) := [(4, { head := [.srow 3 1000003 29 true (.st (.pair Th Th)), .sv 4 true Th, .srow 8 1000008 4 true .bool, .sv 9 true Th, .sv 10 true Th], xid := 0, out := [.srow 3 1000003 29 true (.st (.pair Th Th))], hasRet := false, res := [] })]
noncomputable def cluster_Of_C : List (Nat × Callee) := [(13, .plain cluster_Breaks_fun)]
noncomputable def cluster_Of_fun : Fun := ⟨[.sl Tj], [.row 29 (.st (.pair Th Th))], fun x => cluster_Of_F x.1⟩
theorem cluster_Of_ev (x : Tys.I [.sl Tj]) : evFun G0 (of_ cluster_Of_C) A0 (ol_ cluster_Of_L) Try.f9 [.sl Tj] [.row 29 (.st (.pair Th Th))] x = cluster_Of_T x.1 := by kernel_rfl
theorem cluster_Of_ok : FunOk Try.prog 9 cluster_Of_fun := evFun_ok mixed ctx0 (pc cluster_Breaks_ok (no_calls)) Try.func9 (by kernel_rfl) _ (fun x => congrArg Tr.run (cluster_Of_ev x)) (by kernel_rfl) (by kernel_rfl)
noncomputable def words_kind_T (r0 : Int) (c1 : Int) : Tr Int :=
  .br (r0 == 39) (
    .pure 3) (
    .br (r0 == 46) (
      .pure 3) (
      .br (r0 == 44) (
        .pure 3) (
        .br (r0 == 58) (
          .pure 3) (
          .br (r0 == 95) (
            .pure 3) (
            .br (r0 == 8217) (
              .pure 3) (
              .br (c1 == 1) (
                .br (decide (r0 ≥ 128)) (
                  .pure 1) (
                  .br (decide (48 ≤ r0)) (
                    .br (decide (r0 ≤ 57)) (
                      .pure 1) (
                      .br (decide (97 ≤ r0)) (
                        .br (decide (r0 ≤ 122)) (
                          .pure 1) (
                          .br (decide (65 ≤ r0)) (
                            .br (decide (r0 ≤ 90)) (
                              .pure 1) (
                              .pure 0)) (
                            .pure 0))) (
                        .br (decide (65 ≤ r0)) (
                          .br (decide (r0 ≤ 90)) (
                            .pure 1) (
                            .pure 0)) (
                          .pure 0)))) (
                    .br (decide (97 ≤ r0)) (
                      .br (decide (r0 ≤ 122)) (
                        .pure 1) (
                        .br (decide (65 ≤ r0)) (
                          .br (decide (r0 ≤ 90)) (
                            .pure 1) (
                            .pure 0)) (
                          .pure 0))) (
                      .br (decide (65 ≤ r0)) (
                        .br (decide (r0 ≤ 90)) (
                          .pure 1) (
                          .pure 0)) (
                        .pure 0))))) (
                .br (c1 == 2) (
                  .br (decide (r0 ≥ 128)) (
                    .pure 1) (
                    .br (decide (48 ≤ r0)) (
                      .br (decide (r0 ≤ 57)) (
                        .pure 1) (
                        .br (decide (97 ≤ r0)) (
                          .br (decide (r0 ≤ 122)) (
                            .pure 1) (
                            .br (decide (65 ≤ r0)) (
                              .br (decide (r0 ≤ 90)) (
                                .pure 1) (
                                .pure 0)) (
                              .pure 0))) (
                          .br (decide (65 ≤ r0)) (
                            .br (decide (r0 ≤ 90)) (
                              .pure 1) (
                              .pure 0)) (
                            .pure 0)))) (
                      .br (decide (97 ≤ r0)) (
                        .br (decide (r0 ≤ 122)) (
                          .pure 1) (
                          .br (decide (65 ≤ r0)) (
                            .br (decide (r0 ≤ 90)) (
                              .pure 1) (
                              .pure 0)) (
                            .pure 0))) (
                        .br (decide (65 ≤ r0)) (
                          .br (decide (r0 ≤ 90)) (
                            .pure 1) (
                            .pure 0)) (
                          .pure 0))))) (
                  .br (c1 == 27) (
                    .br (decide (r0 ≥ 128)) (
                      .pure 1) (
                      .br (decide (48 ≤ r0)) (
                        .br (decide (r0 ≤ 57)) (
                          .pure 1) (
                          .br (decide (97 ≤ r0)) (
                            .br (decide (r0 ≤ 122)) (
                              .pure 1) (
                              .br (decide (65 ≤ r0)) (
                                .br (decide (r0 ≤ 90)) (
                                  .pure 1) (
                                  .pure 0)) (
                                .pure 0))) (
                            .br (decide (65 ≤ r0)) (
                              .br (decide (r0 ≤ 90)) (
                                .pure 1) (
                                .pure 0)) (
                              .pure 0)))) (
                        .br (decide (97 ≤ r0)) (
                          .br (decide (r0 ≤ 122)) (
                            .pure 1) (
                            .br (decide (65 ≤ r0)) (
                              .br (decide (r0 ≤ 90)) (
                                .pure 1) (
                                .pure 0)) (
                              .pure 0))) (
                          .br (decide (65 ≤ r0)) (
                            .br (decide (r0 ≤ 90)) (
                              .pure 1) (
                              .pure 0)) (
                            .pure 0))))) (
                    .br (c1 == 40) (
                      .br (decide (r0 ≥ 128)) (
                        .pure 1) (
                        .br (decide (48 ≤ r0)) (
                          .br (decide (r0 ≤ 57)) (
                            .pure 1) (
                            .br (decide (97 ≤ r0)) (
                              .br (decide (r0 ≤ 122)) (
                                .pure 1) (
                                .br (decide (65 ≤ r0)) (
                                  .br (decide (r0 ≤ 90)) (
                                    .pure 1) (
                                    .pure 0)) (
                                  .pure 0))) (
                              .br (decide (65 ≤ r0)) (
                                .br (decide (r0 ≤ 90)) (
                                  .pure 1) (
                                  .pure 0)) (
                                .pure 0)))) (
                          .br (decide (97 ≤ r0)) (
                            .br (decide (r0 ≤ 122)) (
                              .pure 1) (
                              .br (decide (65 ≤ r0)) (
                                .br (decide (r0 ≤ 90)) (
                                  .pure 1) (
                                  .pure 0)) (
                                .pure 0))) (
                            .br (decide (65 ≤ r0)) (
                              .br (decide (r0 ≤ 90)) (
                                .pure 1) (
                                .pure 0)) (
                              .pure 0))))) (
                      .br (c1 == 39) (
                        .br (decide (r0 ≥ 128)) (
                          .pure 1) (
                          .br (decide (48 ≤ r0)) (
                            .br (decide (r0 ≤ 57)) (
                              .pure 1) (
                              .br (decide (97 ≤ r0)) (
                                .br (decide (r0 ≤ 122)) (
                                  .pure 1) (
                                  .br (decide (65 ≤ r0)) (
                                    .br (decide (r0 ≤ 90)) (
                                      .pure 1) (
                                      .pure 0)) (
                                    .pure 0))) (
                                .br (decide (65 ≤ r0)) (
                                  .br (decide (r0 ≤ 90)) (
                                    .pure 1) (
                                    .pure 0)) (
                                  .pure 0)))) (
                            .br (decide (97 ≤ r0)) (
                              .br (decide (r0 ≤ 122)) (
                                .pure 1) (
                                .br (decide (65 ≤ r0)) (
                                  .br (decide (r0 ≤ 90)) (
                                    .pure 1) (
                                    .pure 0)) (
                                  .pure 0))) (
                              .br (decide (65 ≤ r0)) (
                                .br (decide (r0 ≤ 90)) (
                                  .pure 1) (
                                  .pure 0)) (
                                .pure 0))))) (
                        .br (c1 == 9) (
                          .pure 2) (
                          .br (c1 == 14) (
                            .pure 2) (
                            .br (c1 == 12) (
                              .pure 2) (
                              .pure 0))))))))))))))
noncomputable def words_kind_F (r0 : Int) (c1 : Int) : Option Int := (words_kind_T r0 c1).run
def words_kind_L : List (Nat × LoopAnn) := []
noncomputable def words_kind_C : List (Nat × Callee) := []
noncomputable def words_kind_fun : Fun := ⟨[Tj, Ti], [.v Th], fun x => words_kind_F x.1 x.2.1⟩
theorem words_kind_ev (x : Tys.I [Tj, Ti]) : evFun G0 (of_ words_kind_C) A0 (ol_ words_kind_L) Try.f25 [Tj, Ti] [.v Th] x = words_kind_T x.1 x.2.1 := by kernel_rfl
theorem words_kind_ok : FunOk Try.prog 25 words_kind_fun := evFun_ok mixed ctx0 (no_calls) Try.func25 (by kernel_rfl) _ (fun x => congrArg Tr.run (words_kind_ev x)) (by kernel_rfl) (by kernel_rfl)
noncomputable def words_kinds_L4 (rs0 : List Int) (cs5 : List Int) (ks6 : List Int) (t14 : List (Int × Int)) (t15 : Int) (t16 : Int) : Tr (Lap (List Int × List Int × List Int × (List (Int × Int)) × Int × Int) (List Int)) :=
  .br (decide (t16 < t15)) (
    .bnd (idx t14 t16) fun x_3 =>
    .bnd (idx ([x_3]) 0) fun x_4 =>
    .bnd (idx rs0 x_4.1) fun x_5 =>
    .bnd (idx ([x_3]) 0) fun x_6 =>
    .bnd (idx cs5 x_6.1) fun x_7 =>
    .bnd (words_kind_F x_5 x_7) fun c_8 =>
    .bnd (idx ks6 t16) fun x_9 =>
    .pure (.next (rs0, cs5, ks6.set (Int.toNat t16) c_8, t14, t15, IntKind.i64.wrap (t16 + 1)))) (
    .pure (.done ks6))
noncomputable def words_kinds_T (rs0 : List Int) (spans1 : List (Int × Int)) : Tr (List Int) :=
  .bnd (linec_Of_F rs0) fun c_1 =>
  .bnd (mk 17592186044416 0 (spans1.length : Int)) fun r_2 =>
  .bnd (loopW (fun s => (words_kinds_L4 s.1 s.2.1 s.2.2.1 s.2.2.2.1 s.2.2.2.2.1 s.2.2.2.2.2).run) (rs0, c_1, r_2, spans1, (spans1.length : Int), 0)) fun l_10 =>
  .pure l_10
noncomputable def words_kinds_F (rs0 : List Int) (spans1 : List (Int × Int)) : Option (List Int) := (words_kinds_T rs0 spans1).run
def words_kinds_L : List (Nat × LoopAnn) := [(4, { head := [.sv 0 false Tg, .srow 5 1000005 40 true Ti, .srow 6 1000006 30 true Th, .sv 14 false (.sl (.st (.pair Th Th))), .sv 15 true Th, .sv 16 true Th], xid := 0, out := [.srow 6 1000006 30 true Th], hasRet := false, res := [] })]
noncomputable def words_kinds_C : List (Nat × Callee) := [(20, .plain linec_Of_fun), (25, .plain words_kind_fun)]
noncomputable def words_kinds_fun : Fun := ⟨[.sl Tj, .sl (.st (.pair Th Th))], [.row 30 Th], fun x => words_kinds_F x.1 x.2.1⟩
theorem words_kinds_ev (x : Tys.I [.sl Tj, .sl (.st (.pair Th Th))]) : evFun G0 (of_ words_kinds_C) A0 (ol_ words_kinds_L) Try.f16 [.sl Tj, .sl (.st (.pair Th Th))] [.row 30 Th] x = words_kinds_T x.1 x.2.1 := by kernel_rfl
theorem words_kinds_ok : FunOk Try.prog 16 words_kinds_fun := evFun_ok mixed ctx0 (pc linec_Of_ok (pc words_kind_ok (no_calls))) Try.func16 (by kernel_rfl) _ (fun x => congrArg Tr.run (words_kinds_ev x)) (by kernel_rfl) (by kernel_rfl)
noncomputable def words_joined_T (ks0 : List Int) (k1 : Int) : Tr Bool :=
  .bnd (idx ks0 (IntKind.i64.wrap (k1 - 1))) fun x_1 =>
  .bnd (idx ks0 k1) fun x_2 =>
  .br (x_1 == 1) (
    .br (x_2 == 1) (
      .pure true) (
      .br (x_1 == 2) (
        .br (x_2 == 2) (
          .pure true) (
          .br (x_1 == 1) (
            .br (x_2 == 3) (
              .br (decide ((IntKind.i64.wrap (k1 + 1)) < (ks0.length : Int))) (
                .bnd (idx ks0 (IntKind.i64.wrap (k1 + 1))) fun x_3 =>
                .pure (x_3 == 1)) (
                .pure false)) (
              .br (x_1 == 3) (
                .br (x_2 == 1) (
                  .br (decide (k1 ≥ 2)) (
                    .bnd (idx ks0 (IntKind.i64.wrap (k1 - 2))) fun x_4 =>
                    .pure (x_4 == 1)) (
                    .pure false)) (
                  .pure false)) (
                .pure false))) (
            .br (x_1 == 3) (
              .br (x_2 == 1) (
                .br (decide (k1 ≥ 2)) (
                  .bnd (idx ks0 (IntKind.i64.wrap (k1 - 2))) fun x_5 =>
                  .pure (x_5 == 1)) (
                  .pure false)) (
                .pure false)) (
              .pure false)))) (
        .br (x_1 == 1) (
          .br (x_2 == 3) (
            .br (decide ((IntKind.i64.wrap (k1 + 1)) < (ks0.length : Int))) (
              .bnd (idx ks0 (IntKind.i64.wrap (k1 + 1))) fun x_6 =>
              .pure (x_6 == 1)) (
              .pure false)) (
            .br (x_1 == 3) (
              .br (x_2 == 1) (
                .br (decide (k1 ≥ 2)) (
                  .bnd (idx ks0 (IntKind.i64.wrap (k1 - 2))) fun x_7 =>
                  .pure (x_7 == 1)) (
                  .pure false)) (
                .pure false)) (
              .pure false))) (
          .br (x_1 == 3) (
            .br (x_2 == 1) (
              .br (decide (k1 ≥ 2)) (
                .bnd (idx ks0 (IntKind.i64.wrap (k1 - 2))) fun x_8 =>
                .pure (x_8 == 1)) (
                .pure false)) (
              .pure false)) (
            .pure false))))) (
    .br (x_1 == 2) (
      .br (x_2 == 2) (
        .pure true) (
        .br (x_1 == 1) (
          .br (x_2 == 3) (
            .br (decide ((IntKind.i64.wrap (k1 + 1)) < (ks0.length : Int))) (
              .bnd (idx ks0 (IntKind.i64.wrap (k1 + 1))) fun x_9 =>
              .pure (x_9 == 1)) (
              .pure false)) (
            .br (x_1 == 3) (
              .br (x_2 == 1) (
                .br (decide (k1 ≥ 2)) (
                  .bnd (idx ks0 (IntKind.i64.wrap (k1 - 2))) fun x_10 =>
                  .pure (x_10 == 1)) (
                  .pure false)) (
                .pure false)) (
              .pure false))) (
          .br (x_1 == 3) (
            .br (x_2 == 1) (
              .br (decide (k1 ≥ 2)) (
                .bnd (idx ks0 (IntKind.i64.wrap (k1 - 2))) fun x_11 =>
                .pure (x_11 == 1)) (
                .pure false)) (
              .pure false)) (
            .pure false)))) (
      .br (x_1 == 1) (
        .br (x_2 == 3) (
          .br (decide ((IntKind.i64.wrap (k1 + 1)) < (ks0.length : Int))) (
            .bnd (idx ks0 (IntKind.i64.wrap (k1 + 1))) fun x_12 =>
            .pure (x_12 == 1)) (
            .pure false)) (
          .br (x_1 == 3) (
            .br (x_2 == 1) (
              .br (decide (k1 ≥ 2)) (
                .bnd (idx ks0 (IntKind.i64.wrap (k1 - 2))) fun x_13 =>
                .pure (x_13 == 1)) (
                .pure false)) (
              .pure false)) (
            .pure false))) (
        .br (x_1 == 3) (
          .br (x_2 == 1) (
            .br (decide (k1 ≥ 2)) (
              .bnd (idx ks0 (IntKind.i64.wrap (k1 - 2))) fun x_14 =>
              .pure (x_14 == 1)) (
              .pure false)) (
            .pure false)) (
          .pure false))))
noncomputable def words_joined_F (ks0 : List Int) (k1 : Int) : Option Bool := (words_joined_T ks0 k1).run
def words_joined_L : List (Nat × LoopAnn) := []
noncomputable def words_joined_C : List (Nat × Callee) := []
noncomputable def words_joined_fun : Fun := ⟨[.sl Th, Th], [.v .bool], fun x => words_joined_F x.1 x.2.1⟩
theorem words_joined_ev (x : Tys.I [.sl Th, Th]) : evFun G0 (of_ words_joined_C) A0 (ol_ words_joined_L) Try.f18 [.sl Th, Th] [.v .bool] x = words_joined_T x.1 x.2.1 := by kernel_rfl
theorem words_joined_ok : FunOk Try.prog 18 words_joined_fun := evFun_ok mixed ctx0 (no_calls) Try.func18 (by kernel_rfl) _ (fun x => congrArg Tr.run (words_joined_ev x)) (by kernel_rfl) (by kernel_rfl)
noncomputable def words_Breaks_L6 (spans3 : List (Int × Int)) (ks4 : List Int) (breaks5 : List Bool) (k6 : Int) : Tr (Lap ((List (Int × Int)) × List Int × List Bool × Int) (List Bool)) :=
  .br (decide (k6 < (spans3.length : Int))) (
    .bnd (idx spans3 k6) fun x_6 =>
    .bnd (words_joined_F ks4 k6) fun c_7 =>
    .bnd (idx breaks5 x_6.1) fun x_8 =>
    .pure (.next (spans3, ks4, breaks5.set (Int.toNat x_6.1) (!c_7), IntKind.i64.wrap (k6 + 1)))) (
    .pure (.done breaks5))
noncomputable def words_Breaks_T (rs0 : List Int) : Tr (List Bool) :=
  .bnd (cluster_Of_F rs0) fun c_1 =>
  .bnd (words_kinds_F rs0 c_1) fun c_2 =>
  .bnd (mk 140737488355328 false (IntKind.i64.wrap ((rs0.length : Int) + 1))) fun r_3 =>
  .bnd (idx r_3 0) fun x_4 =>
  .bnd (idx (r_3.set (Int.toNat 0) true) (rs0.length : Int)) fun x_5 =>
  .bnd (loopW (fun s => (words_Breaks_L6 s.1 s.2.1 s.2.2.1 s.2.2.2).run) (c_1, c_2, (r_3.set (Int.toNat 0) true).set (Int.toNat (rs0.length : Int)) true, 1)) fun l_9 =>
  .pure l_9
noncomputable def words_Breaks_F (rs0 : List Int) : Option (List Bool) := (words_Breaks_T rs0).run
def words_Breaks_L : List (Nat × LoopAnn) := [(6, { head := [.srow 3 1000003 29 true (.st (.pair Th Th)), .srow 4 1000004 30 true Th, .srow 5 1000005 4 true .bool, .sv 6 true Th], xid := 0, out := [.srow 5 1000005 4 true .bool], hasRet := false, res := [] })]
noncomputable def words_Breaks_C : List (Nat × Callee) := [(9, .plain cluster_Of_fun), (16, .plain words_kinds_fun), (18, .plain words_joined_fun)]
noncomputable def words_Breaks_fun : Fun := ⟨[.sl Tj], [.row 4 .bool], fun x => words_Breaks_F x.1⟩
theorem words_Breaks_ev (x : Tys.I [.sl Tj]) : evFun G0 (of_ words_Breaks_C) A0 (ol_ words_Breaks_L) Try.f11 [.sl Tj] [.row 4 .bool] x = words_Breaks_T x.1 := by kernel_rfl
theorem words_Breaks_ok : FunOk Try.prog 11 words_Breaks_fun := evFun_ok mixed ctx0 (pc cluster_Of_ok (pc words_kinds_ok (pc words_joined_ok (no_calls)))) Try.func11 (by kernel_rfl) _ (fun x => congrArg Tr.run (words_Breaks_ev x)) (by kernel_rfl) (by kernel_rfl)
noncomputable def words_Of_L4 (spans3 : List (Int × Int)) (from4 : Int) (t8 : List Bool) (t9 : Int) (t10 : Int) : Tr (Lap ((List (Int × Int)) × Int × List Bool × Int × Int) (List (Int × Int))) :=
  .br (decide (t10 < t9)) (
    .bnd (idx t8 t10) fun x_2 =>
    .br x_2 (
      .br (decide (t10 > from4)) (
        .bnd (app 8796093022208 spans3 ([(from4, t10)])) fun r_3 =>
        .pure (.next (r_3, t10, t8, t9, IntKind.i64.wrap (t10 + 1)))) (
        .pure (.next (spans3, from4, t8, t9, IntKind.i64.wrap (t10 + 1))))) (
      .pure (.next (spans3, from4, t8, t9, IntKind.i64.wrap (t10 + 1))))) (
    .pure (.done spans3))
noncomputable def words_Of_T (rs0 : List Int) : Tr (List (Int × Int)) :=
  .bnd (words_Breaks_F rs0) fun c_1 =>
  .bnd (loopW (fun s => (words_Of_L4 s.1 s.2.1 s.2.2.1 s.2.2.2.1 s.2.2.2.2).run) ([], 0, c_1, (c_1.length : Int), 0)) fun l_4 =>
  .pure l_4
noncomputable def words_Of_F (rs0 : List Int) : Option (List (Int × Int)) := (words_Of_T rs0).run
def words_Of_L : List (Nat × LoopAnn) := [(4, { head := [.srow 3 1000003 29 true (.st (.pair Th Th)), .sv 4 true Th, .srow 8 1000008 4 true .bool, .sv 9 true Th, .sv 10 true Th], xid := 0, out := [.srow 3 1000003 29 true (.st (.pair Th Th))], hasRet := false, res := [] })]
noncomputable def words_Of_C : List (Nat × Callee) := [(11, .plain words_Breaks_fun)]
noncomputable def words_Of_fun : Fun := ⟨[.sl Tj], [.row 29 (.st (.pair Th Th))], fun x => words_Of_F x.1⟩
theorem words_Of_ev (x : Tys.I [.sl Tj]) : evFun G0 (of_ words_Of_C) A0 (ol_ words_Of_L) Try.f14 [.sl Tj] [.row 29 (.st (.pair Th Th))] x = words_Of_T x.1 := by kernel_rfl
theorem words_Of_ok : FunOk Try.prog 14 words_Of_fun := evFun_ok mixed ctx0 (pc words_Breaks_ok (no_calls)) Try.func14 (by kernel_rfl) _ (fun x => congrArg Tr.run (words_Of_ev x)) (by kernel_rfl) (by kernel_rfl)
noncomputable def law32_parts_L4 (rs3 : List Int) (out4 : ByteArray) (t10 : List (Int × Int)) (t11 : Int) (t12 : Int) : Tr (Lap (List Int × ByteArray × (List (Int × Int)) × Int × Int) (Sum ByteArray ByteArray)) :=
  .br (decide (t12 < t11)) (
    .bnd (idx t10 t12) fun x_3 =>
    .bnd (idx ([x_3]) 0) fun x_4 =>
    .br (decide (x_4.1 < 0)) (
      .pure (.done (.inr (ByteArray.mk #[63])))) (
      .bnd (idx ([x_3]) 0) fun x_5 =>
      .br (decide (x_5.2 > (rs3.length : Int))) (
        .pure (.done (.inr (ByteArray.mk #[63])))) (
        .bnd (idx ([x_3]) 0) fun x_6 =>
        .bnd (idx ([x_3]) 0) fun x_7 =>
        .br (decide (x_6.1 ≥ x_7.2)) (
          .pure (.done (.inr (ByteArray.mk #[63])))) (
          .br (decide (out4.size + (ByteArray.mk #[124]).size ≤ 9223372036854775807)) (
            .bnd (idx ([x_3]) 0) fun x_8 =>
            .bnd (idx ([x_3]) 0) fun x_9 =>
            .bnd (cut rs3 x_8.1 x_9.2) fun r_10 =>
            .br (decide ((out4 ++ (ByteArray.mk #[124])).size + (runesBytes r_10).size ≤ 9223372036854775807)) (
              .pure (.next (rs3, (out4 ++ (ByteArray.mk #[124])) ++ (runesBytes r_10), t10, t11, IntKind.i64.wrap (t12 + 1)))) (
              .fail)) (
            .fail))))) (
    .pure (.done (.inl out4)))
noncomputable def law32_parts_T (s0 : ByteArray) : Tr ByteArray :=
  .bnd (app 35184372088832 [] (runesOf s0)) fun r_1 =>
  .bnd (words_Of_F r_1) fun c_2 =>
  .alt (loopW (fun s => (law32_parts_L4 s.1 s.2.1 s.2.2.1 s.2.2.2.1 s.2.2.2.2).run) (r_1, (ByteArray.mk #[]), c_2, (c_2.length : Int), 0)) (fun l_11 =>
    .pure l_11) (fun l_12 =>
    .pure l_12)
noncomputable def law32_parts_F (s0 : ByteArray) : Option ByteArray := (law32_parts_T s0).run
def law32_parts_L : List (Nat × LoopAnn) := [(4, { head := [.srow 3 1000003 21 true Tj, .sv 4 true .str, .srow 10 1000010 29 true (.st (.pair Th Th)), .sv 11 true Th, .sv 12 true Th], xid := 0, out := [.sv 4 true .str], hasRet := true, res := [.sv 2 true .str] })]
noncomputable def law32_parts_C : List (Nat × Callee) := [(14, .plain words_Of_fun)]
noncomputable def law32_parts_fun : Fun := ⟨[.str], [.v .str], fun x => law32_parts_F x.1⟩
theorem law32_parts_ev (x : Tys.I [.str]) : evFun G0 (of_ law32_parts_C) A0 (ol_ law32_parts_L) Try.f15 [.str] [.v .str] x = law32_parts_T x.1 := by kernel_rfl
theorem law32_parts_ok : FunOk Try.prog 15 law32_parts_fun := evFun_ok mixed ctx0 (pc words_Of_ok (no_calls)) Try.func15 (by kernel_rfl) _ (fun x => congrArg Tr.run (law32_parts_ev x)) (by kernel_rfl) (by kernel_rfl)
noncomputable def law32_awake_T : Tr Bool :=
  .bnd (law32_parts_F (ByteArray.mk #[105, 116, 39, 115, 32, 51, 46, 53, 44, 32, 110, 111])) fun c_1 =>
  .br (c_1.toList == (ByteArray.mk #[124, 105, 116, 39, 115, 124, 32, 124, 51, 46, 53, 124, 44, 124, 32, 124, 110, 111]).toList) (
    .bnd (law32_parts_F (ByteArray.mk #[97, 46, 46, 98])) fun c_2 =>
    .pure (c_2.toList == (ByteArray.mk #[124, 97, 124, 46, 124, 46, 124, 98]).toList)) (
    .pure false)
noncomputable def law32_awake_F : Option Bool := (law32_awake_T).run
def law32_awake_L : List (Nat × LoopAnn) := []
noncomputable def law32_awake_C : List (Nat × Callee) := [(15, .plain law32_parts_fun)]
noncomputable def law32_awake_fun : Fun := ⟨[], [.v .bool], fun _ => law32_awake_F⟩
theorem law32_awake_ev (x : Tys.I []) : evFun G0 (of_ law32_awake_C) A0 (ol_ law32_awake_L) Try.f7 [] [.v .bool] x = law32_awake_T := by kernel_rfl
theorem law32_awake_ok : FunOk Try.prog 7 law32_awake_fun := evFun_ok mixed ctx0 (pc law32_parts_ok (no_calls)) Try.func7 (by kernel_rfl) _ (fun x => congrArg Tr.run (law32_awake_ev x)) (by kernel_rfl) (by kernel_rfl)
noncomputable def words_Kinds_T (rs0 : List Int) : Tr (List Int) :=
  .bnd (cluster_Of_F rs0) fun c_1 =>
  .bnd (words_kinds_F rs0 c_1) fun c_2 =>
  .pure c_2
noncomputable def words_Kinds_F (rs0 : List Int) : Option (List Int) := (words_Kinds_T rs0).run
def words_Kinds_L : List (Nat × LoopAnn) := []
noncomputable def words_Kinds_C : List (Nat × Callee) := [(9, .plain cluster_Of_fun), (16, .plain words_kinds_fun)]
noncomputable def words_Kinds_fun : Fun := ⟨[.sl Tj], [.row 30 Th], fun x => words_Kinds_F x.1⟩
theorem words_Kinds_ev (x : Tys.I [.sl Tj]) : evFun G0 (of_ words_Kinds_C) A0 (ol_ words_Kinds_L) Try.f8 [.sl Tj] [.row 30 Th] x = words_Kinds_T x.1 := by kernel_rfl
theorem words_Kinds_ok : FunOk Try.prog 8 words_Kinds_fun := evFun_ok mixed ctx0 (pc cluster_Of_ok (pc words_kinds_ok (no_calls))) Try.func8 (by kernel_rfl) _ (fun x => congrArg Tr.run (words_Kinds_ev x)) (by kernel_rfl) (by kernel_rfl)
noncomputable def ref04_Find_L2 (t0 : List (List Int)) (r1 : Int) (other2 : Int) (k7 : Int) : Tr (Lap (List (List Int) × Int × Int × Int) (Sum Int Int)) :=
  .br (decide (k7 < (t0.length : Int))) (
    .bnd (idx t0 k7) fun x_1 =>
    .bnd (idx x_1 0) fun x_2 =>
    .br (decide (x_2 ≤ r1)) (
      .bnd (idx t0 k7) fun x_3 =>
      .bnd (idx x_3 1) fun x_4 =>
      .br (decide (r1 ≤ x_4)) (
        .bnd (idx t0 k7) fun x_5 =>
        .bnd (idx x_5 2) fun x_6 =>
        .pure (.done (.inr x_6))) (
        .pure (.next (t0, r1, other2, IntKind.i64.wrap (k7 + 1))))) (
      .pure (.next (t0, r1, other2, IntKind.i64.wrap (k7 + 1))))) (
    .pure (.done (.inl other2)))
noncomputable def ref04_Find_T (t0 : List (List Int)) (r1 : Int) (other2 : Int) : Tr Int :=
  .alt (loopW (fun s => (ref04_Find_L2 s.1 s.2.1 s.2.2.1 s.2.2.2).run) (t0, r1, other2, 0)) (fun l_7 =>
    .pure l_7) (fun l_8 =>
    .pure l_8)
noncomputable def ref04_Find_F (t0 : List (List Int)) (r1 : Int) (other2 : Int) : Option Int := (ref04_Find_T t0 r1 other2).run
def ref04_Find_L : List (Nat × LoopAnn) := [(2, { head := [.sv 0 false (.sl (.arr 3 Th)), .sv 1 false Th, .sv 2 false Th, .sv 7 true Th], xid := 0, out := [.sv 2 false Th], hasRet := true, res := [.sv 6 false Th] })]
noncomputable def ref04_Find_C : List (Nat × Callee) := []
noncomputable def ref04_Find_fun : Fun := ⟨[.sl (.arr 3 Th), Th, Th], [.v Th], fun x => ref04_Find_F x.1 x.2.1 x.2.2.1⟩
theorem ref04_Find_ev (x : Tys.I [.sl (.arr 3 Th), Th, Th]) : evFun G0 (of_ ref04_Find_C) A0 (ol_ ref04_Find_L) Try.f26 [.sl (.arr 3 Th), Th, Th] [.v Th] x = ref04_Find_T x.1 x.2.1 x.2.2.1 := by kernel_rfl
theorem ref04_Find_ok : FunOk Try.prog 26 ref04_Find_fun := evFun_ok mixed ctx0 (no_calls) Try.func26 (by kernel_rfl) _ (fun x => congrArg Tr.run (ref04_Find_ev x)) (by kernel_rfl) (by kernel_rfl)
noncomputable def ref04_Lines_T : Tr (List (List Int)) :=
  .pure ([[0, 8, 3], [9, 9, 14], [10, 10, 7], [11, 12, 5], [13, 13, 6], [14, 31, 3], [32, 32, 9], [33, 33, 23], [34, 34, 22], [35, 35, 1], [36, 36, 29], [37, 37, 28], [38, 38, 1], [39, 39, 22], [40, 40, 21], [41, 41, 20], [42, 42, 1], [43, 43, 29], [44, 44, 25], [45, 45, 17], [46, 46, 25], [47, 47, 26], [48, 57, 27], [58, 59, 25], [60, 62, 1], [63, 63, 23], [64, 90, 1], [91, 91, 21], [92, 92, 29], [93, 93, 20], [94, 122, 1], [123, 123, 21], [124, 124, 14], [125, 125, 19], [126, 126, 1], [127, 132, 3], [133, 133, 8], [134, 159, 3], [160, 160, 12], [161, 161, 21], [162, 162, 28], [163, 165, 29], [166, 166, 1], [167, 168, 39], [169, 169, 1], [170, 170, 39], [171, 171, 22], [172, 172, 1], [173, 173, 14], [174, 175, 1], [176, 176, 28], [177, 177, 29], [178, 179, 39], [180, 180, 15], [181, 181, 1], [182, 186, 39], [187, 187, 22], [188, 190, 39], [191, 191, 21], [192, 214, 1], [215, 215, 39], [216, 246, 1], [247, 247, 39], [248, 710, 1], [712, 712, 15], [716, 716, 15], [735, 735, 15], [768, 846, 3], [847, 847, 12], [848, 859, 3], [860, 866, 12], [867, 879, 3], [880, 1154, 1], [1155, 1161, 3], [1162, 1416, 1], [1417, 1417, 25], [1418, 1418, 14], [1425, 1469, 3], [1470, 1470, 14], [1471, 1471, 3], [1473, 1474, 3], [1476, 1477, 3], [1478, 1478, 23], [1479, 1479, 3], [1488, 1522, 2], [1536, 1544, 1], [1545, 1547, 28], [1548, 1549, 25], [1550, 1551, 1], [1552, 1562, 3], [1563, 1563, 23], [1564, 1564, 3], [1565, 1567, 23], [1568, 1610, 1], [1611, 1631, 3], [1632, 1641, 27], [1642, 1642, 28], [1643, 1644, 27], [1645, 1647, 1], [1648, 1648, 3], [1649, 1747, 1], [1748, 1748, 23], [1749, 1749, 1], [1750, 1756, 3], [1757, 1757, 27], [1758, 1758, 1], [1759, 1764, 3], [1765, 1766, 1], [1767, 1768, 3], [1769, 1769, 1], [1770, 1773, 3], [1774, 1775, 1], [1776, 1785, 27], [1786, 1808, 1], [1809, 1809, 3], [1810, 1839, 1], [1840, 1866, 3], [1867, 1957, 1], [1958, 1968, 3], [2304, 2307, 3], [2308, 2361, 1], [2362, 2364, 3], [2365, 2365, 1], [2366, 2383, 3], [2392, 2401, 1], [2404, 2405, 14], [2406, 2415, 27], [3585, 3632, 40], [3633, 3633, 40], [3634, 3635, 40], [3636, 3642, 40], [3647, 3647, 29], [3648, 3662, 40], [3664, 3673, 27], [3674, 3675, 14], [4352, 4447, 34], [4448, 4519, 35], [4520, 4607, 36], [5760, 5760, 14], [8192, 8198, 14], [8199, 8199, 12], [8200, 8202, 14], [8203, 8203, 10], [8204, 8204, 3], [8205, 8205, 4], [8206, 8207, 3], [8208, 8208, 14], [8209, 8209, 12], [8210, 8211, 14], [8212, 8212, 16], [8213, 8214, 39], [8216, 8217, 22], [8218, 8218, 21], [8219, 8221, 22], [8222, 8222, 21], [8223, 8223, 22], [8224, 8225, 39], [8228, 8230, 24], [8231, 8231, 14], [8232, 8233, 5], [8234, 8238, 3], [8239, 8239, 12], [8240, 8247, 28], [8248, 8248, 1], [8249, 8250, 22], [8251, 8251, 39], [8252, 8253, 18], [8260, 8260, 25], [8261, 8261, 21], [8262, 8262, 19], [8263, 8265, 18], [8278, 8278, 14], [8280, 8283, 14], [8285, 8287, 14], [8288, 8288, 11], [8294, 8303, 3], [8317, 8317, 21], [8318, 8318, 19], [8333, 8333, 21], [8334, 8334, 19], [8352, 8358, 29], [8359, 8359, 28], [8360, 8373, 29], [8374, 8374, 28], [8375, 8399, 29], [8400, 8432, 3], [8451, 8451, 28], [8457, 8457, 28], [8470, 8470, 29], [8592, 8601, 39], [8722, 8723, 29], [8968, 8968, 21], [8969, 8969, 19], [8970, 8970, 21], [8971, 8971, 19], [8986, 8987, 30], [9001, 9001, 21], [9002, 9002, 19], [9200, 9203, 30], [9312, 9470, 39], [9472, 9547, 39], [9728, 9731, 30], [9748, 9749, 30], [9757, 9757, 31], [9785, 9787, 30], [9977, 9977, 31], [9994, 9997, 31], [10082, 10083, 23], [10084, 10084, 30], [10214, 10214, 21], [10215, 10215, 19], [10216, 10216, 21], [10217, 10217, 19], [10218, 10218, 21], [10219, 10219, 19], [10627, 10627, 21], [10628, 10628, 19], [11904, 12287, 30], [12288, 12288, 14], [12289, 12290, 19], [12291, 12292, 30], [12293, 12293, 18], [12294, 12295, 30], [12296, 12296, 21], [12297, 12297, 19], [12298, 12298, 21], [12299, 12299, 19], [12300, 12300, 21], [12301, 12301, 19], [12302, 12302, 21], [12303, 12303, 19], [12304, 12304, 21], [12305, 12305, 19], [12306, 12307, 30], [12308, 12308, 21], [12309, 12309, 19], [12310, 12310, 21], [12311, 12311, 19], [12316, 12316, 18], [12317, 12317, 21], [12318, 12319, 19], [12320, 12329, 30], [12330, 12335, 3], [12336, 12346, 30], [12347, 12348, 18], [12353, 12353, 42], [12354, 12354, 30], [12355, 12355, 42], [12356, 12356, 30], [12357, 12357, 42], [12358, 12358, 30], [12359, 12359, 42], [12360, 12360, 30], [12361, 12361, 42], [12362, 12386, 30], [12387, 12387, 42], [12388, 12418, 30], [12419, 12419, 42], [12420, 12420, 30], [12421, 12421, 42], [12422, 12422, 30], [12423, 12423, 42], [12424, 12440, 30], [12441, 12442, 3], [12443, 12446, 18], [12447, 12447, 30], [12448, 12448, 18], [12449, 12449, 42], [12450, 12482, 30], [12483, 12483, 42], [12484, 12538, 30], [12539, 12539, 18], [12540, 12540, 42], [12541, 12542, 18], [12543, 12543, 30], [12549, 19903, 30], [19968, 40980, 30], [40981, 40981, 18], [40982, 42191, 30], [55296, 57343, 41], [63744, 64255, 30], [64285, 64285, 2], [64286, 64286, 3], [64287, 64296, 2], [64297, 64297, 1], [64298, 64335, 2], [64336, 65019, 1], [65020, 65020, 28], [65024, 65039, 3], [65040, 65040, 25], [65043, 65044, 25], [65056, 65071, 3], [65136, 65276, 1], [65279, 65279, 11], [65281, 65281, 23], [65282, 65283, 30], [65284, 65284, 29], [65285, 65285, 28], [65288, 65288, 21], [65289, 65289, 19], [65292, 65292, 19], [65294, 65294, 19], [65296, 65305, 30], [65306, 65307, 18], [65311, 65311, 23], [65313, 65338, 30], [65339, 65339, 21], [65341, 65341, 19], [65345, 65370, 30], [65371, 65371, 21], [65373, 65373, 19], [65377, 65377, 19], [65378, 65378, 21], [65379, 65380, 19], [65532, 65532, 13], [65533, 65533, 39], [127462, 127487, 33], [127744, 127876, 30], [127877, 127877, 31], [127878, 127994, 30], [127995, 127999, 32], [128000, 128065, 30], [128066, 128067, 31], [128068, 128069, 30], [128070, 128080, 31], [128081, 128101, 30], [128102, 128120, 31], [128121, 129791, 30], [131072, 262141, 30], [917505, 917631, 3], [917760, 917999, 3]])
noncomputable def ref04_Lines_F : Option (List (List Int)) := (ref04_Lines_T).run
def ref04_Lines_L : List (Nat × LoopAnn) := []
noncomputable def ref04_Lines_C : List (Nat × Callee) := []
noncomputable def ref04_Lines_fun : Fun := ⟨[], [.row 63 (.arr 3 Th)], fun _ => ref04_Lines_F⟩
theorem ref04_Lines_ev (x : Tys.I []) : evFun G0 (of_ ref04_Lines_C) A0 (ol_ ref04_Lines_L) Try.f27 [] [.row 63 (.arr 3 Th)] x = ref04_Lines_T := by kernel_rfl
theorem ref04_Lines_ok : FunOk Try.prog 27 ref04_Lines_fun := evFun_ok mixed ctx0 (no_calls) Try.func27 (by kernel_rfl) _ (fun x => congrArg Tr.run (ref04_Lines_ev x)) (by kernel_rfl) (by kernel_rfl)
noncomputable def ref04_Line_T (r0 : Int) : Tr Int :=
  .br (decide (r0 ≥ 44032)) (
    .br (decide (r0 ≤ 55203)) (
      .br (((IntKind.i64.wrap (r0 - 44032)).tmod 28) == 0) (
        .pure 37) (
        .pure 38)) (
      .bnd ref04_Lines_F fun c_1 =>
      .bnd (ref04_Find_F c_1 r0 0) fun c_2 =>
      .pure c_2)) (
    .bnd ref04_Lines_F fun c_3 =>
    .bnd (ref04_Find_F c_3 r0 0) fun c_4 =>
    .pure c_4)
noncomputable def ref04_Line_F (r0 : Int) : Option Int := (ref04_Line_T r0).run
def ref04_Line_L : List (Nat × LoopAnn) := []
noncomputable def ref04_Line_C : List (Nat × Callee) := [(27, .plain ref04_Lines_fun), (26, .plain ref04_Find_fun)]
noncomputable def ref04_Line_fun : Fun := ⟨[Th], [.v Th], fun x => ref04_Line_F x.1⟩
theorem ref04_Line_ev (x : Tys.I [Th]) : evFun G0 (of_ ref04_Line_C) A0 (ol_ ref04_Line_L) Try.f17 [Th] [.v Th] x = ref04_Line_T x.1 := by kernel_rfl
theorem ref04_Line_ok : FunOk Try.prog 17 ref04_Line_fun := evFun_ok mixed ctx0 (pc ref04_Lines_ok (pc ref04_Find_ok (no_calls))) Try.func17 (by kernel_rfl) _ (fun x => congrArg Tr.run (ref04_Line_ev x)) (by kernel_rfl) (by kernel_rfl)
noncomputable def law32_kind_T (r0 : Int) : Tr Int :=
  .br (r0 == 39) (
    .pure 3) (
    .br (r0 == 46) (
      .pure 3) (
      .br (r0 == 44) (
        .pure 3) (
        .br (r0 == 58) (
          .pure 3) (
          .br (r0 == 95) (
            .pure 3) (
            .br (r0 == 8217) (
              .pure 3) (
              .bnd (ref04_Line_F (IntKind.i64.wrap r0)) fun c_1 =>
              .br ((IntKind.u8.wrap c_1) == 1) (
                .br (decide (r0 ≥ 128)) (
                  .pure 1) (
                  .br (decide (r0 ≥ 48)) (
                    .br (decide (r0 ≤ 57)) (
                      .pure 1) (
                      .br (decide (r0 ≥ 97)) (
                        .br (decide (r0 ≤ 122)) (
                          .pure 1) (
                          .br (decide (r0 ≥ 65)) (
                            .br (decide (r0 ≤ 90)) (
                              .pure 1) (
                              .pure 0)) (
                            .pure 0))) (
                        .br (decide (r0 ≥ 65)) (
                          .br (decide (r0 ≤ 90)) (
                            .pure 1) (
                            .pure 0)) (
                          .pure 0)))) (
                    .br (decide (r0 ≥ 97)) (
                      .br (decide (r0 ≤ 122)) (
                        .pure 1) (
                        .br (decide (r0 ≥ 65)) (
                          .br (decide (r0 ≤ 90)) (
                            .pure 1) (
                            .pure 0)) (
                          .pure 0))) (
                      .br (decide (r0 ≥ 65)) (
                        .br (decide (r0 ≤ 90)) (
                          .pure 1) (
                          .pure 0)) (
                        .pure 0))))) (
                .br ((IntKind.u8.wrap c_1) == 2) (
                  .br (decide (r0 ≥ 128)) (
                    .pure 1) (
                    .br (decide (r0 ≥ 48)) (
                      .br (decide (r0 ≤ 57)) (
                        .pure 1) (
                        .br (decide (r0 ≥ 97)) (
                          .br (decide (r0 ≤ 122)) (
                            .pure 1) (
                            .br (decide (r0 ≥ 65)) (
                              .br (decide (r0 ≤ 90)) (
                                .pure 1) (
                                .pure 0)) (
                              .pure 0))) (
                          .br (decide (r0 ≥ 65)) (
                            .br (decide (r0 ≤ 90)) (
                              .pure 1) (
                              .pure 0)) (
                            .pure 0)))) (
                      .br (decide (r0 ≥ 97)) (
                        .br (decide (r0 ≤ 122)) (
                          .pure 1) (
                          .br (decide (r0 ≥ 65)) (
                            .br (decide (r0 ≤ 90)) (
                              .pure 1) (
                              .pure 0)) (
                            .pure 0))) (
                        .br (decide (r0 ≥ 65)) (
                          .br (decide (r0 ≤ 90)) (
                            .pure 1) (
                            .pure 0)) (
                          .pure 0))))) (
                  .br ((IntKind.u8.wrap c_1) == 27) (
                    .br (decide (r0 ≥ 128)) (
                      .pure 1) (
                      .br (decide (r0 ≥ 48)) (
                        .br (decide (r0 ≤ 57)) (
                          .pure 1) (
                          .br (decide (r0 ≥ 97)) (
                            .br (decide (r0 ≤ 122)) (
                              .pure 1) (
                              .br (decide (r0 ≥ 65)) (
                                .br (decide (r0 ≤ 90)) (
                                  .pure 1) (
                                  .pure 0)) (
                                .pure 0))) (
                            .br (decide (r0 ≥ 65)) (
                              .br (decide (r0 ≤ 90)) (
                                .pure 1) (
                                .pure 0)) (
                              .pure 0)))) (
                        .br (decide (r0 ≥ 97)) (
                          .br (decide (r0 ≤ 122)) (
                            .pure 1) (
                            .br (decide (r0 ≥ 65)) (
                              .br (decide (r0 ≤ 90)) (
                                .pure 1) (
                                .pure 0)) (
                              .pure 0))) (
                          .br (decide (r0 ≥ 65)) (
                            .br (decide (r0 ≤ 90)) (
                              .pure 1) (
                              .pure 0)) (
                            .pure 0))))) (
                    .br ((IntKind.u8.wrap c_1) == 40) (
                      .br (decide (r0 ≥ 128)) (
                        .pure 1) (
                        .br (decide (r0 ≥ 48)) (
                          .br (decide (r0 ≤ 57)) (
                            .pure 1) (
                            .br (decide (r0 ≥ 97)) (
                              .br (decide (r0 ≤ 122)) (
                                .pure 1) (
                                .br (decide (r0 ≥ 65)) (
                                  .br (decide (r0 ≤ 90)) (
                                    .pure 1) (
                                    .pure 0)) (
                                  .pure 0))) (
                              .br (decide (r0 ≥ 65)) (
                                .br (decide (r0 ≤ 90)) (
                                  .pure 1) (
                                  .pure 0)) (
                                .pure 0)))) (
                          .br (decide (r0 ≥ 97)) (
                            .br (decide (r0 ≤ 122)) (
                              .pure 1) (
                              .br (decide (r0 ≥ 65)) (
                                .br (decide (r0 ≤ 90)) (
                                  .pure 1) (
                                  .pure 0)) (
                                .pure 0))) (
                            .br (decide (r0 ≥ 65)) (
                              .br (decide (r0 ≤ 90)) (
                                .pure 1) (
                                .pure 0)) (
                              .pure 0))))) (
                      .br ((IntKind.u8.wrap c_1) == 39) (
                        .br (decide (r0 ≥ 128)) (
                          .pure 1) (
                          .br (decide (r0 ≥ 48)) (
                            .br (decide (r0 ≤ 57)) (
                              .pure 1) (
                              .br (decide (r0 ≥ 97)) (
                                .br (decide (r0 ≤ 122)) (
                                  .pure 1) (
                                  .br (decide (r0 ≥ 65)) (
                                    .br (decide (r0 ≤ 90)) (
                                      .pure 1) (
                                      .pure 0)) (
                                    .pure 0))) (
                                .br (decide (r0 ≥ 65)) (
                                  .br (decide (r0 ≤ 90)) (
                                    .pure 1) (
                                    .pure 0)) (
                                  .pure 0)))) (
                            .br (decide (r0 ≥ 97)) (
                              .br (decide (r0 ≤ 122)) (
                                .pure 1) (
                                .br (decide (r0 ≥ 65)) (
                                  .br (decide (r0 ≤ 90)) (
                                    .pure 1) (
                                    .pure 0)) (
                                  .pure 0))) (
                              .br (decide (r0 ≥ 65)) (
                                .br (decide (r0 ≤ 90)) (
                                  .pure 1) (
                                  .pure 0)) (
                                .pure 0))))) (
                        .br ((IntKind.u8.wrap c_1) == 9) (
                          .pure 2) (
                          .br ((IntKind.u8.wrap c_1) == 14) (
                            .pure 2) (
                            .br ((IntKind.u8.wrap c_1) == 12) (
                              .pure 2) (
                              .pure 0))))))))))))))
noncomputable def law32_kind_F (r0 : Int) : Option Int := (law32_kind_T r0).run
def law32_kind_L : List (Nat × LoopAnn) := []
noncomputable def law32_kind_C : List (Nat × Callee) := [(17, .plain ref04_Line_fun)]
noncomputable def law32_kind_fun : Fun := ⟨[Tj], [.v Th], fun x => law32_kind_F x.1⟩
theorem law32_kind_ev (x : Tys.I [Tj]) : evFun G0 (of_ law32_kind_C) A0 (ol_ law32_kind_L) Try.f10 [Tj] [.v Th] x = law32_kind_T x.1 := by kernel_rfl
theorem law32_kind_ok : FunOk Try.prog 10 law32_kind_fun := evFun_ok mixed ctx0 (pc ref04_Line_ok (no_calls)) Try.func10 (by kernel_rfl) _ (fun x => congrArg Tr.run (law32_kind_ev x)) (by kernel_rfl) (by kernel_rfl)
noncomputable def law32_WordsKinds_L8 (rs0 : List Int) (ks3 : List Int) (t18 : List (Int × Int)) (t19 : Int) (t20 : Int) : Tr (Lap (List Int × List Int × (List (Int × Int)) × Int × Int) (Sum Unit Bool)) :=
  .br (decide (t20 < t19)) (
    .bnd (idx t18 t20) fun x_4 =>
    .bnd (idx ks3 t20) fun x_5 =>
    .bnd (idx ([x_4]) 0) fun x_6 =>
    .bnd (idx rs0 x_6.1) fun x_7 =>
    .bnd (law32_kind_F x_7) fun c_8 =>
    .br (x_5 != c_8) (
      .pure (.done (.inr false))) (
      .pure (.next (rs0, ks3, t18, t19, IntKind.i64.wrap (t20 + 1))))) (
    .pure (.done (.inl ())))
noncomputable def law32_WordsKinds_T (rs0 : List Int) : Tr Bool :=
  .bnd law32_awake_F fun c_1 =>
  .br (!c_1) (
    .pure false) (
    .bnd (words_Kinds_F rs0) fun c_2 =>
    .bnd (cluster_Of_F rs0) fun c_3 =>
    .br ((c_2.length : Int) != (c_3.length : Int)) (
      .pure false) (
      .alt (loopW (fun s => (law32_WordsKinds_L8 s.1 s.2.1 s.2.2.1 s.2.2.2.1 s.2.2.2.2).run) (rs0, c_2, c_3, (c_3.length : Int), 0)) (fun l_9 =>
        .pure true) (fun l_10 =>
        .pure l_10)))
noncomputable def law32_WordsKinds_F (rs0 : List Int) : Option Bool := (law32_WordsKinds_T rs0).run
def law32_WordsKinds_L : List (Nat × LoopAnn) := [(8, { head := [.sv 0 false Tg, .srow 3 1000003 30 true Th, .srow 18 1000018 29 true (.st (.pair Th Th)), .sv 19 true Th, .sv 20 true Th], xid := 0, out := [], hasRet := true, res := [.sv 2 true .bool] })]
noncomputable def law32_WordsKinds_C : List (Nat × Callee) := [(7, .plain law32_awake_fun), (8, .plain words_Kinds_fun), (9, .plain cluster_Of_fun), (10, .plain law32_kind_fun)]
noncomputable def law32_WordsKinds_fun : Fun := ⟨[.sl Tj], [.v .bool], fun x => law32_WordsKinds_F x.1⟩
theorem law32_WordsKinds_ev (x : Tys.I [.sl Tj]) : evFun G0 (of_ law32_WordsKinds_C) A0 (ol_ law32_WordsKinds_L) Try.f3 [.sl Tj] [.v .bool] x = law32_WordsKinds_T x.1 := by kernel_rfl
theorem law32_WordsKinds_ok : FunOk Try.prog 3 law32_WordsKinds_fun := evFun_ok mixed ctx0 (pc law32_awake_ok (pc words_Kinds_ok (pc cluster_Of_ok (pc law32_kind_ok (no_calls))))) Try.func3 (by kernel_rfl) _ (fun x => congrArg Tr.run (law32_WordsKinds_ev x)) (by kernel_rfl) (by kernel_rfl)
noncomputable def law32_joined_1_T (i0 : Int) (t1 : List Int) : Tr Bool :=
  .br (decide (i0 > 0)) (
    .br (decide ((IntKind.i64.wrap (i0 + 1)) < (t1.length : Int))) (
      .bnd (idx t1 i0) fun x_1 =>
      .br (x_1 == 3) (
        .bnd (idx t1 (IntKind.i64.wrap (i0 - 1))) fun x_2 =>
        .br (x_2 == 1) (
          .bnd (idx t1 (IntKind.i64.wrap (i0 + 1))) fun x_3 =>
          .pure (x_3 == 1)) (
          .pure false)) (
        .pure false)) (
      .pure false)) (
    .pure false)
noncomputable def law32_joined_1_F (i0 : Int) (t1 : List Int) : Option Bool := (law32_joined_1_T i0 t1).run
def law32_joined_1_L : List (Nat × LoopAnn) := []
noncomputable def law32_joined_1_C : List (Nat × Callee) := []
noncomputable def law32_joined_1_fun : Fun := ⟨[Th, .ptr Te], [.v .bool], fun x => law32_joined_1_F x.1 x.2.1⟩
theorem law32_joined_1_ev (x : Tys.I [Th, .ptr Te]) : evFun G0 (of_ law32_joined_1_C) A0 (ol_ law32_joined_1_L) Try.f19 [Th, .ptr Te] [.v .bool] x = law32_joined_1_T x.1 x.2.1 := by kernel_rfl
theorem law32_joined_1_ok : FunOk Try.prog 19 law32_joined_1_fun := evFun_ok mixed ctx0 (no_calls) Try.func19 (by kernel_rfl) _ (fun x => congrArg Tr.run (law32_joined_1_ev x)) (by kernel_rfl) (by kernel_rfl)
noncomputable def law32_joined_T (ks0 : List Int) (k1 : Int) : Tr Bool :=
  .bnd (idx ks0 (IntKind.i64.wrap (k1 - 1))) fun x_1 =>
  .bnd (idx ks0 k1) fun x_2 =>
  .br (x_1 == 1) (
    .br (x_2 == 1) (
      .pure true) (
      .br (x_1 == 2) (
        .br (x_2 == 2) (
          .pure true) (
          .bnd (law32_joined_1_F k1 ks0) fun c_3 =>
          .br c_3 (
            .pure true) (
            .bnd (law32_joined_1_F (IntKind.i64.wrap (k1 - 1)) ks0) fun c_4 =>
            .pure c_4))) (
        .bnd (law32_joined_1_F k1 ks0) fun c_5 =>
        .br c_5 (
          .pure true) (
          .bnd (law32_joined_1_F (IntKind.i64.wrap (k1 - 1)) ks0) fun c_6 =>
          .pure c_6)))) (
    .br (x_1 == 2) (
      .br (x_2 == 2) (
        .pure true) (
        .bnd (law32_joined_1_F k1 ks0) fun c_7 =>
        .br c_7 (
          .pure true) (
          .bnd (law32_joined_1_F (IntKind.i64.wrap (k1 - 1)) ks0) fun c_8 =>
          .pure c_8))) (
      .bnd (law32_joined_1_F k1 ks0) fun c_9 =>
      .br c_9 (
        .pure true) (
        .bnd (law32_joined_1_F (IntKind.i64.wrap (k1 - 1)) ks0) fun c_10 =>
        .pure c_10)))
noncomputable def law32_joined_F (ks0 : List Int) (k1 : Int) : Option Bool := (law32_joined_T ks0 k1).run
def law32_joined_L : List (Nat × LoopAnn) := []
noncomputable def law32_joined_C : List (Nat × Callee) := [(19, .plain law32_joined_1_fun)]
noncomputable def law32_joined_fun : Fun := ⟨[.sl Th, Th], [.v .bool], fun x => law32_joined_F x.1 x.2.1⟩
theorem law32_joined_ev (x : Tys.I [.sl Th, Th]) : evFun G0 (of_ law32_joined_C) A0 (ol_ law32_joined_L) Try.f12 [.sl Th, Th] [.v .bool] x = law32_joined_T x.1 x.2.1 := by kernel_rfl
theorem law32_joined_ok : FunOk Try.prog 12 law32_joined_fun := evFun_ok mixed ctx0 (pc law32_joined_1_ok (no_calls)) Try.func12 (by kernel_rfl) _ (fun x => congrArg Tr.run (law32_joined_ev x)) (by kernel_rfl) (by kernel_rfl)
noncomputable def law32_WordsBreaks_L8 (bs3 : List Bool) (want4 : List Bool) (ks5 : List Int) (t24 : List (Int × Int)) (t25 : Int) (t26 : Int) : Tr (Lap (List Bool × List Bool × List Int × (List (Int × Int)) × Int × Int) (List Bool × List Bool)) :=
  .br (decide (t26 < t25)) (
    .bnd (idx t24 t26) fun x_7 =>
    .bnd (idx ([x_7]) 0) fun x_8 =>
    .br (t26 == 0) (
      .bnd (idx want4 x_8.1) fun x_9 =>
      .pure (.next (bs3, want4.set (Int.toNat x_8.1) true, ks5, t24, t25, IntKind.i64.wrap (t26 + 1)))) (
      .bnd (law32_joined_F ks5 t26) fun c_10 =>
      .bnd (idx want4 x_8.1) fun x_11 =>
      .pure (.next (bs3, want4.set (Int.toNat x_8.1) (!c_10), ks5, t24, t25, IntKind.i64.wrap (t26 + 1))))) (
    .pure (.done (bs3, want4)))
noncomputable def law32_WordsBreaks_L16 (bs3 : List Bool) (want4 : List Bool) (t52 : Int) (t53 : Int) : Tr (Lap (List Bool × List Bool × Int × Int) (Sum Unit Bool)) :=
  .br (decide (t53 < t52)) (
    .bnd (idx bs3 t53) fun x_14 =>
    .bnd (idx want4 t53) fun x_15 =>
    .br (!(x_14 == x_15)) (
      .pure (.done (.inr false))) (
      .pure (.next (bs3, want4, t52, IntKind.i64.wrap (t53 + 1))))) (
    .pure (.done (.inl ())))
noncomputable def law32_WordsBreaks_T (rs0 : List Int) : Tr Bool :=
  .bnd law32_awake_F fun c_1 =>
  .br (!c_1) (
    .pure false) (
    .bnd (words_Breaks_F rs0) fun c_2 =>
    .bnd (mk 140737488355328 false (IntKind.i64.wrap ((rs0.length : Int) + 1))) fun r_3 =>
    .bnd (idx r_3 (rs0.length : Int)) fun x_4 =>
    .bnd (words_Kinds_F rs0) fun c_5 =>
    .bnd (cluster_Of_F rs0) fun c_6 =>
    .bnd (loopW (fun s => (law32_WordsBreaks_L8 s.1 s.2.1 s.2.2.1 s.2.2.2.1 s.2.2.2.2.1 s.2.2.2.2.2).run) (c_2, r_3.set (Int.toNat (rs0.length : Int)) true, c_5, c_6, (c_6.length : Int), 0)) fun l_12 =>
    .br ((l_12.1.length : Int) != (l_12.2.length : Int)) (
      .pure false) (
      .bnd (idx l_12.2 0) fun x_13 =>
      .alt (loopW (fun s => (law32_WordsBreaks_L16 s.1 s.2.1 s.2.2.1 s.2.2.2).run) (l_12.1, l_12.2.set (Int.toNat 0) true, (l_12.1.length : Int), 0)) (fun l_16 =>
        .pure true) (fun l_17 =>
        .pure l_17)))
noncomputable def law32_WordsBreaks_F (rs0 : List Int) : Option Bool := (law32_WordsBreaks_T rs0).run
def law32_WordsBreaks_L : List (Nat × LoopAnn) := [(8, { head := [.srow 3 1000003 4 true .bool, .srow 4 1000004 4 true .bool, .srow 5 1000005 30 true Th, .srow 24 1000024 29 true (.st (.pair Th Th)), .sv 25 true Th, .sv 26 true Th], xid := 0, out := [.srow 3 1000003 4 true .bool, .srow 4 1000004 4 true .bool], hasRet := false, res := [] }), (16, { head := [.srow 3 1000003 4 true .bool, .srow 4 1000004 4 true .bool, .sv 52 true Th, .sv 53 true Th], xid := 2, out := [], hasRet := true, res := [.sv 2 true .bool] })]
noncomputable def law32_WordsBreaks_C : List (Nat × Callee) := [(7, .plain law32_awake_fun), (11, .plain words_Breaks_fun), (8, .plain words_Kinds_fun), (9, .plain cluster_Of_fun), (12, .plain law32_joined_fun)]
noncomputable def law32_WordsBreaks_fun : Fun := ⟨[.sl Tj], [.v .bool], fun x => law32_WordsBreaks_F x.1⟩
theorem law32_WordsBreaks_ev (x : Tys.I [.sl Tj]) : evFun G0 (of_ law32_WordsBreaks_C) A0 (ol_ law32_WordsBreaks_L) Try.f4 [.sl Tj] [.v .bool] x = law32_WordsBreaks_T x.1 := by kernel_rfl
theorem law32_WordsBreaks_ok : FunOk Try.prog 4 law32_WordsBreaks_fun := evFun_ok mixed ctx0 (pc law32_awake_ok (pc words_Breaks_ok (pc words_Kinds_ok (pc cluster_Of_ok (pc law32_joined_ok (no_calls)))))) Try.func4 (by kernel_rfl) _ (fun x => congrArg Tr.run (law32_WordsBreaks_ev x)) (by kernel_rfl) (by kernel_rfl)
noncomputable def law32_WordsSpans_L6 (rs0 : List Int) (bs3 : List Bool) (at4 : Int) (t12 : List (Int × Int)) (t13 : Int) (t14 : Int) : Tr (Lap (List Int × List Bool × Int × (List (Int × Int)) × Int × Int) (Sum (List Int × Int) Bool)) :=
  .br (decide (t14 < t13)) (
    .bnd (idx t12 t14) fun x_4 =>
    .bnd (idx ([x_4]) 0) fun x_5 =>
    .br (x_5.1 != at4) (
      .pure (.done (.inr false))) (
      .bnd (idx ([x_4]) 0) fun x_6 =>
      .br (decide (x_6.2 ≤ at4)) (
        .pure (.done (.inr false))) (
        .bnd (idx ([x_4]) 0) fun x_7 =>
        .br (decide (x_7.2 > (rs0.length : Int))) (
          .pure (.done (.inr false))) (
          .br ((bs3.length : Int) != (IntKind.i64.wrap ((rs0.length : Int) + 1))) (
            .pure (.done (.inr false))) (
            .bnd (idx ([x_4]) 0) fun x_8 =>
            .bnd (idx bs3 x_8.1) fun x_9 =>
            .br (!x_9) (
              .pure (.done (.inr false))) (
              .bnd (idx ([x_4]) 0) fun x_10 =>
              .bnd (idx bs3 x_10.2) fun x_11 =>
              .br (!x_11) (
                .pure (.done (.inr false))) (
                .bnd (idx ([x_4]) 0) fun x_12 =>
                .pure (.next (rs0, bs3, x_12.2, t12, t13, IntKind.i64.wrap (t14 + 1)))))))))) (
    .pure (.done (.inl (rs0, at4))))
noncomputable def law32_WordsSpans_T (rs0 : List Int) : Tr Bool :=
  .bnd law32_awake_F fun c_1 =>
  .br (!c_1) (
    .pure false) (
    .bnd (cluster_Breaks_F rs0) fun c_2 =>
    .bnd (words_Of_F rs0) fun c_3 =>
    .alt (loopW (fun s => (law32_WordsSpans_L6 s.1 s.2.1 s.2.2.1 s.2.2.2.1 s.2.2.2.2.1 s.2.2.2.2.2).run) (rs0, c_2, 0, c_3, (c_3.length : Int), 0)) (fun l_13 =>
      .pure (l_13.2 == (l_13.1.length : Int))) (fun l_14 =>
      .pure l_14))
noncomputable def law32_WordsSpans_F (rs0 : List Int) : Option Bool := (law32_WordsSpans_T rs0).run
def law32_WordsSpans_L : List (Nat × LoopAnn) := [(6, { head := [.sv 0 false Tg, .srow 3 1000003 4 true .bool, .sv 4 true Th, .srow 12 1000012 29 true (.st (.pair Th Th)), .sv 13 true Th, .sv 14 true Th], xid := 0, out := [.sv 0 false Tg, .sv 4 true Th], hasRet := true, res := [.sv 2 true .bool] })]
noncomputable def law32_WordsSpans_C : List (Nat × Callee) := [(7, .plain law32_awake_fun), (13, .plain cluster_Breaks_fun), (14, .plain words_Of_fun)]
noncomputable def law32_WordsSpans_fun : Fun := ⟨[.sl Tj], [.v .bool], fun x => law32_WordsSpans_F x.1⟩
theorem law32_WordsSpans_ev (x : Tys.I [.sl Tj]) : evFun G0 (of_ law32_WordsSpans_C) A0 (ol_ law32_WordsSpans_L) Try.f5 [.sl Tj] [.v .bool] x = law32_WordsSpans_T x.1 := by kernel_rfl
theorem law32_WordsSpans_ok : FunOk Try.prog 5 law32_WordsSpans_fun := evFun_ok mixed ctx0 (pc law32_awake_ok (pc cluster_Breaks_ok (pc words_Of_ok (no_calls)))) Try.func5 (by kernel_rfl) _ (fun x => congrArg Tr.run (law32_WordsSpans_ev x)) (by kernel_rfl) (by kernel_rfl)
noncomputable def law32_WordsPlain_L10 (ns0 : List Int) (rs3 : List Int) (n5 : Int) (i6 : Int) (t9 : List Int) (t10 : Int) (t11 : Int) : Tr (Lap (List Int × List Int × Int × Int × List Int × Int × Int) (List Int × List Int × List Int × Int × Int)) :=
  .br (decide (i6 ≤ (IntKind.i64.wrap (n5.tmod 5)))) (
    .bnd (app 35184372088832 rs3 ([IntKind.i32.wrap (IntKind.i64.wrap (97 + ((IntKind.i64.wrap n5).tmod 26)))])) fun r_4 =>
    .pure (.next (ns0, r_4, n5, IntKind.i64.wrap (i6 + 1), t9, t10, t11))) (
    .pure (.done (ns0, rs3, t9, t10, t11)))
noncomputable def law32_WordsPlain_L5 (ns0 : List Int) (rs3 : List Int) (t9 : List Int) (t10 : Int) (t11 : Int) : Tr (Lap (List Int × List Int × List Int × Int × Int) (List Int × List Int)) :=
  .br (decide (t11 < t10)) (
    .bnd (idx t9 t11) fun x_2 =>
    .br (decide (t11 > 0)) (
      .bnd (app 35184372088832 rs3 ([32])) fun r_3 =>
      .bnd (loopW (fun s => (law32_WordsPlain_L10 s.1 s.2.1 s.2.2.1 s.2.2.2.1 s.2.2.2.2.1 s.2.2.2.2.2.1 s.2.2.2.2.2.2).run) (ns0, r_3, x_2, 0, t9, t10, t11)) fun l_5 =>
      .pure (.next (l_5.1, l_5.2.1, l_5.2.2.1, l_5.2.2.2.1, IntKind.i64.wrap (l_5.2.2.2.2 + 1)))) (
      .bnd (loopW (fun s => (law32_WordsPlain_L10 s.1 s.2.1 s.2.2.1 s.2.2.2.1 s.2.2.2.2.1 s.2.2.2.2.2.1 s.2.2.2.2.2.2).run) (ns0, rs3, x_2, 0, t9, t10, t11)) fun l_6 =>
      .pure (.next (l_6.1, l_6.2.1, l_6.2.2.1, l_6.2.2.2.1, IntKind.i64.wrap (l_6.2.2.2.2 + 1))))) (
    .pure (.done (ns0, rs3)))
noncomputable def law32_WordsPlain_T (ns0 : List Int) : Tr Bool :=
  .bnd law32_awake_F fun c_1 =>
  .br (!c_1) (
    .pure false) (
    .bnd (loopW (fun s => (law32_WordsPlain_L5 s.1 s.2.1 s.2.2.1 s.2.2.2.1 s.2.2.2.2).run) (ns0, [], ns0, (ns0.length : Int), 0)) fun l_7 =>
    .bnd (words_Of_F l_7.2) fun c_8 =>
    .pure ((c_8.length : Int) == (if (IntKind.i64.wrap ((IntKind.i64.wrap (2 * (l_7.1.length : Int))) - 1)) > 0 then (IntKind.i64.wrap ((IntKind.i64.wrap (2 * (l_7.1.length : Int))) - 1)) else 0)))
noncomputable def law32_WordsPlain_F (ns0 : List Int) : Option Bool := (law32_WordsPlain_T ns0).run
def law32_WordsPlain_L : List (Nat × LoopAnn) := [(10, { head := [.sv 0 false Tf, .srow 3 1000003 21 true Tj, .sv 5 false Ti, .sv 6 true Th, .sv 9 false Tf, .sv 10 true Th, .sv 11 true Th], xid := 2, out := [.sv 0 false Tf, .srow 3 1000003 21 true Tj, .sv 9 false Tf, .sv 10 true Th, .sv 11 true Th], hasRet := false, res := [] }), (5, { head := [.sv 0 false Tf, .srow 3 1000003 21 true Tj, .sv 9 false Tf, .sv 10 true Th, .sv 11 true Th], xid := 0, out := [.sv 0 false Tf, .srow 3 1000003 21 true Tj], hasRet := false, res := [] })]
noncomputable def law32_WordsPlain_C : List (Nat × Callee) := [(7, .plain law32_awake_fun), (14, .plain words_Of_fun)]
noncomputable def law32_WordsPlain_fun : Fun := ⟨[.sl Ti], [.v .bool], fun x => law32_WordsPlain_F x.1⟩
theorem law32_WordsPlain_ev (x : Tys.I [.sl Ti]) : evFun G0 (of_ law32_WordsPlain_C) A0 (ol_ law32_WordsPlain_L) Try.f6 [.sl Ti] [.v .bool] x = law32_WordsPlain_T x.1 := by kernel_rfl
theorem law32_WordsPlain_ok : FunOk Try.prog 6 law32_WordsPlain_fun := evFun_ok mixed ctx0 (pc law32_awake_ok (pc words_Of_ok (no_calls))) Try.func6 (by kernel_rfl) _ (fun x => congrArg Tr.run (law32_WordsPlain_ev x)) (by kernel_rfl) (by kernel_rfl)
end Go.Proofs.Ytbahobcalimoiaa
