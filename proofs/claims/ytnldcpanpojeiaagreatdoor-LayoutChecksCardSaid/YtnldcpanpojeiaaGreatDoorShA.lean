/-
  The plain readings of the functions of this seat, by program; each is tied to the loaded function.
-/
import Derived.Test.YtnldcpanpojeiaaGreatDoorEvTold2
import Derived.Test.YtnldcpanpojeiaaGreatDoorChecked
namespace Go.Proofs.YtnldcpanpojeiaaGreatDoor
set_option maxRecDepth 100000
set_option linter.unusedVariables false

def G0 : Ctx := { ty := [(3, .int .i64), (4, .bool), (5, .int .u8), (9, .str), (21, .int .i32), (24, .err 52 26), (26, .int .i64), (33, .sl (.int .i32)), (34, .sl (.int .i64)), (35, .sl (.int .i64)), (36, .sl (.st (.pair (.st (.pair (.int .i64) (.pair (.int .i64) (.pair .bool .bool)))) (.pair (.sl (.int .i64)) (.pair (.sl (.int .i64)) (.pair (.sl (.int .i64)) (.pair (.sl (.int .i32)) (.pair (.sl (.int .i64)) (.pair (.sl (.int .i64)) (.pair (.int .i64) (.sl (.int .i64)))))))))))), (38, .st (.pair (.sl (.int .i32)) (.pair (.sl (.int .i64)) (.pair (.sl (.int .i64)) (.pair (.sl (.int .i64)) (.sl (.st (.pair (.st (.pair (.int .i64) (.pair (.int .i64) (.pair .bool .bool)))) (.pair (.sl (.int .i64)) (.pair (.sl (.int .i64)) (.pair (.sl (.int .i64)) (.pair (.sl (.int .i32)) (.pair (.sl (.int .i64)) (.pair (.sl (.int .i64)) (.pair (.int .i64) (.sl (.int .i64))))))))))))))))), (41, .int .i64), (43, .sl (.int .u8)), (46, .st (.pair (.int .i64) (.pair (.int .i64) (.pair .bool .bool)))), (48, .st (.pair (.st (.pair (.int .i64) (.pair (.int .i64) (.pair .bool .bool)))) (.pair (.sl (.int .i64)) (.pair (.sl (.int .i64)) (.pair (.sl (.int .i64)) (.pair (.sl (.int .i32)) (.pair (.sl (.int .i64)) (.pair (.sl (.int .i64)) (.pair (.int .i64) (.sl (.int .i64))))))))))), (65, .sl (.int .u8)), (66, .sl (.st (.pair (.int .i64) (.pair (.int .i64) (.int .i64))))), (68, .st (.pair (.sl (.int .u8)) (.pair (.sl (.int .i64)) (.pair (.sl (.st (.pair (.int .i64) (.pair (.int .i64) (.int .i64))))) (.sl (.int .i64)))))), (73, .sl (.st (.pair (.int .i64) (.pair (.int .i64) (.pair .bool .bool))))), (76, .ptr (.st (.pair (.sl (.int .i64)) (.sl (.int .i64))))), (78, .sl (.int .u8)), (82, .st (.pair (.sl (.int .i32)) (.pair (.sl (.int .i64)) (.pair (.sl (.int .u8)) (.pair (.sl (.int .i64)) (.sl (.int .i64))))))), (85, .ptr (.st (.pair (.st (.pair (.int .i64) (.pair (.int .i64) (.pair .bool .bool)))) (.pair (.sl (.int .i64)) (.pair (.sl (.int .i64)) (.pair (.sl (.int .i64)) (.pair (.sl (.int .i32)) (.pair (.sl (.int .i64)) (.pair (.sl (.int .i64)) (.pair (.int .i64) (.sl (.int .i64)))))))))))), (108, .st (.pair (.int .i64) (.pair (.int .i64) (.int .i64)))), (110, .sl (.st (.pair (.int .i64) (.pair (.int .i64) (.pair (.int .u8) .bool))))), (113, .int .i64), (114, .int .u8), (116, .st (.pair (.int .i64) (.pair (.int .i64) (.pair (.int .u8) .bool)))), (117, .sl (.st (.pair (.int .i32) (.pair (.int .i32) (.int .u8))))), (123, .st (.pair (.sl (.int .i64)) (.sl (.int .i64)))), (125, .ptr (.st (.pair (.sl (.int .i32)) (.pair (.sl (.int .i64)) (.pair (.sl (.int .u8)) (.pair (.sl (.int .i64)) (.sl (.int .i64)))))))), (135, .int .u64), (156, .int .u8), (160, .sl (.st (.pair (.sl (.int .i64)) (.pair (.int .i64) (.pair (.int .u8) (.int .u8)))))), (163, .st (.pair (.sl (.int .i64)) (.pair (.int .i64) (.pair (.int .u8) (.int .u8))))), (170, .st (.pair (.int .u8) (.pair (.int .u8) (.pair (.int .u8) (.pair .bool (.pair .bool (.pair .bool .bool))))))), (174, .sl (.st (.pair (.int .i32) (.pair (.int .i32) (.int .u8))))), (177, .st (.pair (.int .i32) (.pair (.int .i32) (.int .u8)))), (179, .st (.pair (.int .i32) (.pair (.int .i32) (.int .u8)))), (182, .sl (.st (.pair (.int .i32) (.pair (.int .i32) (.int .u8))))), (185, .st (.pair (.int .i32) (.pair (.int .i32) (.int .u8)))), (196, .sl (.st (.pair (.int .i32) (.pair (.int .i32) (.int .u8))))), (199, .st (.pair (.int .i32) (.pair (.int .i32) (.int .u8)))), (200, .ptr (.st (.pair (.sl (.st (.pair (.int .i64) (.pair (.int .u8) .bool)))) (.pair (.int .i64) (.pair (.int .i64) (.int .i64)))))), (202, .st (.pair (.int .i64) (.pair (.int .u8) .bool))), (203, .sl (.st (.pair (.int .i64) (.pair (.int .u8) .bool)))), (205, .st (.pair (.sl (.st (.pair (.int .i64) (.pair (.int .u8) .bool)))) (.pair (.int .i64) (.pair (.int .i64) (.int .i64))))), (206, .sl .bool), (212, .sl (.sl (.int .i64))), (227, .st (.pair (.int .i32) (.int .i32))), (228, .arr 35 (.st (.pair (.int .i32) (.int .i32)))), (235, .sl (.st (.pair (.int .i64) (.int .i64)))), (238, .st (.pair (.int .i64) (.int .i64))), (242, .int .u32), (245, .int .u64), (250, .sl (.st (.pair (.int .i64) (.int .i32)))), (251, .int .i64), (255, .st (.pair (.int .i64) (.int .i32)))], sls := [(33, ⟨21, .int .i32, 35184372088832⟩), (34, ⟨3, .int .i64, 17592186044416⟩), (35, ⟨113, .int .i64, 17592186044416⟩), (36, ⟨48, .st (.pair (.st (.pair (.int .i64) (.pair (.int .i64) (.pair .bool .bool)))) (.pair (.sl (.int .i64)) (.pair (.sl (.int .i64)) (.pair (.sl (.int .i64)) (.pair (.sl (.int .i32)) (.pair (.sl (.int .i64)) (.pair (.sl (.int .i64)) (.pair (.int .i64) (.sl (.int .i64)))))))))), 703687441776⟩), (43, ⟨5, .int .u8, 140737488355328⟩), (65, ⟨156, .int .u8, 140737488355328⟩), (66, ⟨108, .st (.pair (.int .i64) (.pair (.int .i64) (.int .i64))), 5864062014805⟩), (73, ⟨46, .st (.pair (.int .i64) (.pair (.int .i64) (.pair .bool .bool))), 5864062014805⟩), (78, ⟨114, .int .u8, 140737488355328⟩), (110, ⟨116, .st (.pair (.int .i64) (.pair (.int .i64) (.pair (.int .u8) .bool))), 5864062014805⟩), (117, ⟨179, .st (.pair (.int .i32) (.pair (.int .i32) (.int .u8))), 11728124029610⟩), (160, ⟨163, .st (.pair (.sl (.int .i64)) (.pair (.int .i64) (.pair (.int .u8) (.int .u8)))), 3518437208883⟩), (174, ⟨177, .st (.pair (.int .i32) (.pair (.int .i32) (.int .u8))), 11728124029610⟩), (182, ⟨185, .st (.pair (.int .i32) (.pair (.int .i32) (.int .u8))), 11728124029610⟩), (196, ⟨199, .st (.pair (.int .i32) (.pair (.int .i32) (.int .u8))), 11728124029610⟩), (203, ⟨202, .st (.pair (.int .i64) (.pair (.int .u8) .bool)), 8796093022208⟩), (206, ⟨4, .bool, 140737488355328⟩), (212, ⟨34, .sl (.int .i64), 5864062014805⟩), (235, ⟨238, .st (.pair (.int .i64) (.int .i64)), 8796093022208⟩), (250, ⟨255, .st (.pair (.int .i64) (.int .i32)), 8796093022208⟩)], eqs := [], enos := [26] }
theorem mixed : Tryz.prog.follows .mixedOrders = true := by kernel_rfl
theorem ctx0 : CtxOk Tryz.prog G0 := ctx_ok (by kernel_rfl)
theorem no_calls {Λ : List Nat} : ∀ f fa, olook f ([] : List (Nat × Callee)) = some fa → CalleeOk Tryz.prog f fa ∧ (fa.isPlain = false → inList f Λ = true) := fun _ _ h => by cases h
theorem cons_calls {Λ : List Nat} {k : Nat} {fb : Callee} {l : List (Nat × Callee)} (h : CalleeOk Tryz.prog k fb) (hi : fb.isPlain = false → inList k Λ = true) (hl : ∀ f fa, olook f l = some fa → CalleeOk Tryz.prog f fa ∧ (fa.isPlain = false → inList f Λ = true)) : ∀ f fa, olook f ((k, fb) :: l) = some fa → CalleeOk Tryz.prog f fa ∧ (fa.isPlain = false → inList f Λ = true) := by
  intro f fa hf
  rw [olook_cons] at hf
  split at hf
  · rename_i e; subst e; cases hf; exact ⟨h, hi⟩
  · exact hl f fa hf

theorem pc {Λ : List Nat} {k : Nat} {fa : Fun} {l : List (Nat × Callee)} (h : FunOk Tryz.prog k fa) (hl : ∀ f fa, olook f l = some fa → CalleeOk Tryz.prog f fa ∧ (fa.isPlain = false → inList f Λ = true)) : ∀ f fb, olook f ((k, .plain fa) :: l) = some fb → CalleeOk Tryz.prog f fb ∧ (fb.isPlain = false → inList f Λ = true) := cons_calls (fb := .plain fa) h (fun h => by cases h) hl
def gtab : List (Int × Int) := [(40, 41), (60, 62), (91, 93), (123, 125), (171, 187), (8249, 8250), (8261, 8262), (8317, 8318), (8333, 8334), (8712, 8715), (8713, 8716), (8804, 8805), (8806, 8807), (8810, 8811), (8834, 8835), (8838, 8839), (8968, 8969), (8970, 8971), (9001, 9002), (10214, 10215), (10216, 10217), (10218, 10219), (10627, 10628), (12296, 12297), (12298, 12299), (12300, 12301), (12302, 12303), (12304, 12305), (12308, 12309), (12310, 12311), (65288, 65289), (65308, 65310), (65339, 65341), (65371, 65373), (65378, 65379)]

@[reducible] def Ta : Ty := .st (.pair (.sl (.int .i64)) (.pair (.int .i64) (.pair (.int .u8) (.int .u8))))
@[reducible] def Tb : Ty := .st (.pair (.int .i64) (.pair (.int .u8) .bool))
@[reducible] def Tc : Ty := .st (.pair (.int .i64) (.pair (.int .i64) (.int .i64)))
@[reducible] def Td : Ty := .st (.pair (.int .i32) (.pair (.int .i32) (.int .u8)))
@[reducible] def Te : Ty := .sl (.int .i64)
@[reducible] def Tf : Ty := .sl (.int .u8)
@[reducible] def Tg : Ty := .sl (.int .i32)
@[reducible] def Th : Ty := .int .i64
@[reducible] def Ti : Ty := .int .u8
@[reducible] def Tj : Ty := .int .i32
@[reducible] def A0 : Ann := ⟨[], [], [], [], [], []⟩
@[reducible] def of_ (l : List (Nat × Callee)) : FuncId → Option Callee := fun f => olook f l
@[reducible] def ol_ (l : List (Nat × LoopAnn)) : Nat → Option LoopAnn := fun i => olook i l
noncomputable def api_Wrap_F (e : Int) (s : ByteArray) (n : Int) : Option (Option (Int × ByteArray × Int)) := some (some (e, s, n))
noncomputable def api_Wrap_fun : Fun := ⟨[.eno 26, .str, Th], [.v (.err 52 26)], fun x => api_Wrap_F x.1 x.2.1 x.2.2.1⟩
theorem api_Wrap_ok : FunOk Tryz.prog 9 api_Wrap_fun := wrap_ok (tF := 56) ⟨_, _, Tryz.func9, by kernel_rfl, rfl⟩ (fun k n s w => by
  go_enter Tryz.func9, Tryz.ntmps9
  go_wp2
  go_ret
  exact ⟨rfl, rfl⟩)
noncomputable def layout_Check_T (bytes0 : Int) (width1 : Int) : Tr (Option (Int × ByteArray × Int)) :=
  .br (decide (bytes0 > 1073741824)) (
    .bnd (api_Wrap_F 1 (ByteArray.mk #[98, 121, 116, 101, 115]) bytes0) fun c_1 =>
    .pure c_1) (
    .br (decide (width1 < 1)) (
      .bnd (api_Wrap_F 2 (ByteArray.mk #[119, 105, 100, 116, 104]) width1) fun c_2 =>
      .pure c_2) (
      .pure none))
noncomputable def layout_Check_F (bytes0 : Int) (width1 : Int) : Option (Option (Int × ByteArray × Int)) := (layout_Check_T bytes0 width1).run
def layout_Check_L : List (Nat × LoopAnn) := []
noncomputable def layout_Check_C : List (Nat × Callee) := [(9, .plain api_Wrap_fun)]
noncomputable def layout_Check_fun : Fun := ⟨[Th, Th], [.v (.err 52 26)], fun x => layout_Check_F x.1 x.2.1⟩
theorem layout_Check_ev (x : Tys.I [Th, Th]) : evFun G0 (of_ layout_Check_C) A0 (ol_ layout_Check_L) Tryz.f6 [Th, Th] [.v (.err 52 26)] x = layout_Check_T x.1 x.2.1 := by kernel_rfl
theorem layout_Check_ok : FunOk Tryz.prog 6 layout_Check_fun := evFun_ok mixed ctx0 (pc api_Wrap_ok (no_calls)) Tryz.func6 (by kernel_rfl) _ (fun x => congrArg Tr.run (layout_Check_ev x)) (by kernel_rfl) (by kernel_rfl)
noncomputable def utf_lead_T (b0 : Int) : Tr (Int × Int × Int) :=
  .br (decide (b0 < 128)) (
    .pure (1, 0, 0)) (
    .br (decide (b0 < 194)) (
      .pure (0, 0, 0)) (
      .br (decide (b0 < 224)) (
        .pure (2, 128, 191)) (
        .br (b0 == 224) (
          .pure (3, 160, 191)) (
          .br (b0 == 237) (
            .pure (3, 128, 159)) (
            .br (decide (b0 < 240)) (
              .pure (3, 128, 191)) (
              .br (b0 == 240) (
                .pure (4, 144, 191)) (
                .br (decide (b0 < 244)) (
                  .pure (4, 128, 191)) (
                  .br (b0 == 244) (
                    .pure (4, 128, 143)) (
                    .pure (0, 0, 0))))))))))
noncomputable def utf_lead_F (b0 : Int) : Option (Int × Int × Int) := (utf_lead_T b0).run
def utf_lead_L : List (Nat × LoopAnn) := []
noncomputable def utf_lead_C : List (Nat × Callee) := []
noncomputable def utf_lead_fun : Fun := ⟨[Ti], [.v Th, .v Ti, .v Ti], fun x => utf_lead_F x.1⟩
theorem utf_lead_ev (x : Tys.I [Ti]) : evFun G0 (of_ utf_lead_C) A0 (ol_ utf_lead_L) Tryz.f86 [Ti] [.v Th, .v Ti, .v Ti] x = utf_lead_T x.1 := by kernel_rfl
theorem utf_lead_ok : FunOk Tryz.prog 86 utf_lead_fun := evFun_ok mixed ctx0 (no_calls) Tryz.func86 (by kernel_rfl) _ (fun x => congrArg Tr.run (utf_lead_ev x)) (by kernel_rfl) (by kernel_rfl)
noncomputable def utf_read_L10 (b0 : List Int) (at1 : Int) (size7 : Int) (lo8 : Int) (hi9 : Int) (r10 : Int) (i11 : Int) : Tr (Lap (List Int × Int × Int × Int × Int × Int × Int) (Sum (Int × Int) (Int × Int × Bool))) :=
  .br (decide (i11 < size7)) (
    .br (decide (i11 ≥ (IntKind.i64.wrap ((b0.length : Int) - at1)))) (
      .pure (.done (.inr (65533, i11, false)))) (
      .bnd (idx b0 (IntKind.i64.wrap (at1 + i11))) fun x_5 =>
      .br (decide (x_5 < lo8)) (
        .pure (.done (.inr (65533, i11, false)))) (
        .bnd (idx b0 (IntKind.i64.wrap (at1 + i11))) fun x_6 =>
        .br (decide (x_6 > hi9)) (
          .pure (.done (.inr (65533, i11, false)))) (
          .bnd (idx b0 (IntKind.i64.wrap (at1 + i11))) fun x_7 =>
          .pure (.next (b0, at1, size7, 128, 191, ibits .or .i32 (shiftBy .shl .i32 r10 6) (IntKind.i32.wrap (ibits .and .u8 x_7 63)), IntKind.i64.wrap (i11 + 1))))))) (
    .pure (.done (.inl (size7, r10))))
noncomputable def utf_read_T (b0 : List Int) (at1 : Int) : Tr (Int × Int × Bool) :=
  .br (decide (at1 < 0)) (
    .pure (0, 0, false)) (
    .br (decide (at1 ≥ (b0.length : Int))) (
      .pure (0, 0, false)) (
      .bnd (idx b0 at1) fun x_1 =>
      .bnd (utf_lead_F x_1) fun c_2 =>
      .br (c_2.1 == 0) (
        .pure (65533, 1, false)) (
        .br (c_2.1 == 1) (
          .bnd (idx b0 at1) fun x_3 =>
          .pure (IntKind.i32.wrap x_3, 1, true)) (
          .bnd (idx b0 at1) fun x_4 =>
          .br (decide (0 ≤ c_2.1)) (
            .alt (loopW (fun s => (utf_read_L10 s.1 s.2.1 s.2.2.1 s.2.2.2.1 s.2.2.2.2.1 s.2.2.2.2.2.1 s.2.2.2.2.2.2).run) (b0, at1, c_2.1, c_2.2.1, c_2.2.2, IntKind.i32.wrap (ibits .and .u8 x_4 (shiftBy .shr .u8 127 c_2.1)), 1)) (fun l_8 =>
              .pure (l_8.2, l_8.1, true)) (fun l_9 =>
              .pure (l_9.1, l_9.2.1, l_9.2.2))) (
            .fail)))))
noncomputable def utf_read_F (b0 : List Int) (at1 : Int) : Option (Int × Int × Bool) := (utf_read_T b0 at1).run
def utf_read_L : List (Nat × LoopAnn) := [(10, { head := [.sv 0 false Tf, .sv 1 false Th, .sv 7 true Th, .sv 8 true Ti, .sv 9 true Ti, .sv 10 true Tj, .sv 11 true Th], xid := 0, out := [.sv 7 true Th, .sv 10 true Tj], hasRet := true, res := [.sv 4 true Tj, .sv 5 true Th, .sv 6 true .bool] })]
noncomputable def utf_read_C : List (Nat × Callee) := [(86, .plain utf_lead_fun)]
noncomputable def utf_read_fun : Fun := ⟨[.sl Ti, Th], [.v Tj, .v Th, .v .bool], fun x => utf_read_F x.1 x.2.1⟩
theorem utf_read_ev (x : Tys.I [.sl Ti, Th]) : evFun G0 (of_ utf_read_C) A0 (ol_ utf_read_L) Tryz.f60 [.sl Ti, Th] [.v Tj, .v Th, .v .bool] x = utf_read_T x.1 x.2.1 := by kernel_rfl
theorem utf_read_ok : FunOk Tryz.prog 60 utf_read_fun := evFun_ok mixed ctx0 (pc utf_lead_ok (no_calls)) Tryz.func60 (by kernel_rfl) _ (fun x => congrArg Tr.run (utf_read_ev x)) (by kernel_rfl) (by kernel_rfl)
noncomputable def utf_Next_T (b0 : List Int) (at1 : Int) : Tr (Int × Int) :=
  .bnd (utf_read_F b0 at1) fun c_1 =>
  .pure (c_1.1, c_1.2.1)
noncomputable def utf_Next_F (b0 : List Int) (at1 : Int) : Option (Int × Int) := (utf_Next_T b0 at1).run
def utf_Next_L : List (Nat × LoopAnn) := []
noncomputable def utf_Next_C : List (Nat × Callee) := [(60, .plain utf_read_fun)]
noncomputable def utf_Next_fun : Fun := ⟨[.sl Ti, Th], [.v Tj, .v Th], fun x => utf_Next_F x.1 x.2.1⟩
theorem utf_Next_ev (x : Tys.I [.sl Ti, Th]) : evFun G0 (of_ utf_Next_C) A0 (ol_ utf_Next_L) Tryz.f36 [.sl Ti, Th] [.v Tj, .v Th] x = utf_Next_T x.1 x.2.1 := by kernel_rfl
theorem utf_Next_ok : FunOk Tryz.prog 36 utf_Next_fun := evFun_ok mixed ctx0 (pc utf_read_ok (no_calls)) Tryz.func36 (by kernel_rfl) _ (fun x => congrArg Tr.run (utf_Next_ev x)) (by kernel_rfl) (by kernel_rfl)
noncomputable def utf_Decode_L4 (b0 : List Int) (rs4 : List Int) (starts5 : List Int) (at6 : Int) : Tr (Lap (List Int × List Int × List Int × Int) (List Int × List Int)) :=
  .br (decide (at6 < (b0.length : Int))) (
    .bnd (utf_Next_F b0 at6) fun c_1 =>
    .bnd (app 35184372088832 rs4 ([c_1.1])) fun r_2 =>
    .bnd (app 17592186044416 starts5 ([at6])) fun r_3 =>
    .pure (.next (b0, r_2, r_3, IntKind.i64.wrap (at6 + c_1.2)))) (
    .pure (.done (rs4, starts5)))
noncomputable def utf_Decode_T (b0 : List Int) : Tr (List Int × List Int) :=
  .bnd (loopW (fun s => (utf_Decode_L4 s.1 s.2.1 s.2.2.1 s.2.2.2).run) (b0, [], [], 0)) fun l_4 =>
  .pure (l_4.1, l_4.2)
noncomputable def utf_Decode_F (b0 : List Int) : Option (List Int × List Int) := (utf_Decode_T b0).run
def utf_Decode_L : List (Nat × LoopAnn) := [(4, { head := [.sv 0 false Tf, .srow 4 1000004 21 true Tj, .srow 5 1000005 3 true Th, .sv 6 true Th], xid := 0, out := [.srow 4 1000004 21 true Tj, .srow 5 1000005 3 true Th], hasRet := false, res := [] })]
noncomputable def utf_Decode_C : List (Nat × Callee) := [(36, .plain utf_Next_fun)]
noncomputable def utf_Decode_fun : Fun := ⟨[.sl Ti], [.row 21 Tj, .row 3 Th], fun x => utf_Decode_F x.1⟩
theorem utf_Decode_ev (x : Tys.I [.sl Ti]) : evFun G0 (of_ utf_Decode_C) A0 (ol_ utf_Decode_L) Tryz.f20 [.sl Ti] [.row 21 Tj, .row 3 Th] x = utf_Decode_T x.1 := by kernel_rfl
theorem utf_Decode_ok : FunOk Tryz.prog 20 utf_Decode_fun := evFun_ok mixed ctx0 (pc utf_Next_ok (no_calls)) Tryz.func20 (by kernel_rfl) _ (fun x => congrArg Tr.run (utf_Decode_ev x)) (by kernel_rfl) (by kernel_rfl)
noncomputable def bidic_Isolate_T (c0 : Int) : Tr Bool :=
  .br (c0 == 19) (
    .pure true) (
    .br (c0 == 20) (
      .pure true) (
      .pure (c0 == 21)))
noncomputable def bidic_Isolate_F (c0 : Int) : Option Bool := (bidic_Isolate_T c0).run
def bidic_Isolate_L : List (Nat × LoopAnn) := []
noncomputable def bidic_Isolate_C : List (Nat × Callee) := []
noncomputable def bidic_Isolate_fun : Fun := ⟨[Ti], [.v .bool], fun x => bidic_Isolate_F x.1⟩
theorem bidic_Isolate_ev (x : Tys.I [Ti]) : evFun G0 (of_ bidic_Isolate_C) A0 (ol_ bidic_Isolate_L) Tryz.f87 [Ti] [.v .bool] x = bidic_Isolate_T x.1 := by kernel_rfl
theorem bidic_Isolate_ok : FunOk Tryz.prog 87 bidic_Isolate_fun := evFun_ok mixed ctx0 (no_calls) Tryz.func87 (by kernel_rfl) _ (fun x => congrArg Tr.run (bidic_Isolate_ev x)) (by kernel_rfl) (by kernel_rfl)
noncomputable def bidic_Strong_T (c0 : Int) : Tr Bool :=
  .br (c0 == 0) (
    .pure true) (
    .br (c0 == 1) (
      .pure true) (
      .pure (c0 == 2)))
noncomputable def bidic_Strong_F (c0 : Int) : Option Bool := (bidic_Strong_T c0).run
def bidic_Strong_L : List (Nat × LoopAnn) := []
noncomputable def bidic_Strong_C : List (Nat × Callee) := []
noncomputable def bidic_Strong_fun : Fun := ⟨[Ti], [.v .bool], fun x => bidic_Strong_F x.1⟩
theorem bidic_Strong_ev (x : Tys.I [Ti]) : evFun G0 (of_ bidic_Strong_C) A0 (ol_ bidic_Strong_L) Tryz.f88 [Ti] [.v .bool] x = bidic_Strong_T x.1 := by kernel_rfl
theorem bidic_Strong_ok : FunOk Tryz.prog 88 bidic_Strong_fun := evFun_ok mixed ctx0 (no_calls) Tryz.func88 (by kernel_rfl) _ (fun x => congrArg Tr.run (bidic_Strong_ev x)) (by kernel_rfl) (by kernel_rfl)
noncomputable def base_strong_T (c0 : Int) : Tr Int :=
  .br (c0 == 0) (
    .pure 0) (
    .pure 1)
noncomputable def base_strong_F (c0 : Int) : Option Int := (base_strong_T c0).run
def base_strong_L : List (Nat × LoopAnn) := []
noncomputable def base_strong_C : List (Nat × Callee) := []
noncomputable def base_strong_fun : Fun := ⟨[Ti], [.v Th], fun x => base_strong_F x.1⟩
theorem base_strong_ev (x : Tys.I [Ti]) : evFun G0 (of_ base_strong_C) A0 (ol_ base_strong_L) Tryz.f89 [Ti] [.v Th] x = base_strong_T x.1 := by kernel_rfl
theorem base_strong_ok : FunOk Tryz.prog 89 base_strong_fun := evFun_ok mixed ctx0 (no_calls) Tryz.func89 (by kernel_rfl) _ (fun x => congrArg Tr.run (base_strong_ev x)) (by kernel_rfl) (by kernel_rfl)
noncomputable def base_First_L3 (inside1 : Bool) (other2 : Int) (depth7 : Int) (t10 : List Int) (t11 : Int) (t12 : Int) : Tr (Lap (Bool × Int × Int × List Int × Int × Int) (Sum Int Int)) :=
  .br (decide (t12 < t11)) (
    .bnd (idx t10 t12) fun x_1 =>
    .bnd (bidic_Isolate_F x_1) fun c_2 =>
    .br c_2 (
      .pure (.next (inside1, other2, IntKind.i64.wrap (depth7 + 1), t10, t11, IntKind.i64.wrap (t12 + 1)))) (
      .br (x_1 == 22) (
        .br (decide (depth7 > 0)) (
          .pure (.next (inside1, other2, IntKind.i64.wrap (depth7 - 1), t10, t11, IntKind.i64.wrap (t12 + 1)))) (
          .br (x_1 == 22) (
            .br inside1 (
              .pure (.done (.inr other2))) (
              .bnd (bidic_Strong_F x_1) fun c_3 =>
              .br c_3 (
                .br (depth7 == 0) (
                  .bnd (base_strong_F x_1) fun c_4 =>
                  .pure (.done (.inr c_4))) (
                  .pure (.next (inside1, other2, depth7, t10, t11, IntKind.i64.wrap (t12 + 1))))) (
                .pure (.next (inside1, other2, depth7, t10, t11, IntKind.i64.wrap (t12 + 1)))))) (
            .bnd (bidic_Strong_F x_1) fun c_5 =>
            .br c_5 (
              .br (depth7 == 0) (
                .bnd (base_strong_F x_1) fun c_6 =>
                .pure (.done (.inr c_6))) (
                .pure (.next (inside1, other2, depth7, t10, t11, IntKind.i64.wrap (t12 + 1))))) (
              .pure (.next (inside1, other2, depth7, t10, t11, IntKind.i64.wrap (t12 + 1))))))) (
        .br (x_1 == 22) (
          .br inside1 (
            .pure (.done (.inr other2))) (
            .bnd (bidic_Strong_F x_1) fun c_7 =>
            .br c_7 (
              .br (depth7 == 0) (
                .bnd (base_strong_F x_1) fun c_8 =>
                .pure (.done (.inr c_8))) (
                .pure (.next (inside1, other2, depth7, t10, t11, IntKind.i64.wrap (t12 + 1))))) (
              .pure (.next (inside1, other2, depth7, t10, t11, IntKind.i64.wrap (t12 + 1)))))) (
          .bnd (bidic_Strong_F x_1) fun c_9 =>
          .br c_9 (
            .br (depth7 == 0) (
              .bnd (base_strong_F x_1) fun c_10 =>
              .pure (.done (.inr c_10))) (
              .pure (.next (inside1, other2, depth7, t10, t11, IntKind.i64.wrap (t12 + 1))))) (
            .pure (.next (inside1, other2, depth7, t10, t11, IntKind.i64.wrap (t12 + 1)))))))) (
    .pure (.done (.inl other2)))
noncomputable def base_First_T (cs0 : List Int) (inside1 : Bool) (other2 : Int) : Tr Int :=
  .alt (loopW (fun s => (base_First_L3 s.1 s.2.1 s.2.2.1 s.2.2.2.1 s.2.2.2.2.1 s.2.2.2.2.2).run) (inside1, other2, 0, cs0, (cs0.length : Int), 0)) (fun l_11 =>
    .pure l_11) (fun l_12 =>
    .pure l_12)
noncomputable def base_First_F (cs0 : List Int) (inside1 : Bool) (other2 : Int) : Option Int := (base_First_T cs0 inside1 other2).run
def base_First_L : List (Nat × LoopAnn) := [(3, { head := [.sv 1 false .bool, .sv 2 false Th, .sv 7 true Th, .sv 10 false Tf, .sv 11 true Th, .sv 12 true Th], xid := 0, out := [.sv 2 false Th], hasRet := true, res := [.sv 6 false Th] })]
noncomputable def base_First_C : List (Nat × Callee) := [(87, .plain bidic_Isolate_fun), (88, .plain bidic_Strong_fun), (89, .plain base_strong_fun)]
noncomputable def base_First_fun : Fun := ⟨[.sl Ti, .bool, Th], [.v Th], fun x => base_First_F x.1 x.2.1 x.2.2.1⟩
theorem base_First_ev (x : Tys.I [.sl Ti, .bool, Th]) : evFun G0 (of_ base_First_C) A0 (ol_ base_First_L) Tryz.f61 [.sl Ti, .bool, Th] [.v Th] x = base_First_T x.1 x.2.1 x.2.2.1 := by kernel_rfl
theorem base_First_ok : FunOk Tryz.prog 61 base_First_fun := evFun_ok mixed ctx0 (pc bidic_Isolate_ok (pc bidic_Strong_ok (pc base_strong_ok (no_calls)))) Tryz.func61 (by kernel_rfl) _ (fun x => congrArg Tr.run (base_First_ev x)) (by kernel_rfl) (by kernel_rfl)
noncomputable def base_Level_T (cs0 : List Int) (d1 : Int) : Tr (Int × Option (Int × ByteArray × Int)) :=
  .br (d1 == 0) (
    .bnd (base_First_F cs0 false 0) fun c_1 =>
    .pure (c_1, none)) (
    .br (d1 == 1) (
      .pure (0, none)) (
      .br (d1 == 2) (
        .pure (1, none)) (
        .bnd (api_Wrap_F 3 (ByteArray.mk #[100, 105, 114, 101, 99, 116, 105, 111, 110]) d1) fun c_2 =>
        .pure (0, c_2))))
noncomputable def base_Level_F (cs0 : List Int) (d1 : Int) : Option (Int × Option (Int × ByteArray × Int)) := (base_Level_T cs0 d1).run
def base_Level_L : List (Nat × LoopAnn) := []
noncomputable def base_Level_C : List (Nat × Callee) := [(61, .plain base_First_fun), (9, .plain api_Wrap_fun)]
noncomputable def base_Level_fun : Fun := ⟨[.sl Ti, Th], [.v Th, .v (.err 52 26)], fun x => base_Level_F x.1 x.2.1⟩
theorem base_Level_ev (x : Tys.I [.sl Ti, Th]) : evFun G0 (of_ base_Level_C) A0 (ol_ base_Level_L) Tryz.f37 [.sl Ti, Th] [.v Th, .v (.err 52 26)] x = base_Level_T x.1 x.2.1 := by kernel_rfl
theorem base_Level_ok : FunOk Tryz.prog 37 base_Level_fun := evFun_ok mixed ctx0 (pc base_First_ok (pc api_Wrap_ok (no_calls))) Tryz.func37 (by kernel_rfl) _ (fun x => congrArg Tr.run (base_Level_ev x)) (by kernel_rfl) (by kernel_rfl)
noncomputable def ranges_Find_L2 (rs0 : List (Int × Int × Int)) (r1 : Int) (other2 : Int) (from7 : Int) (to8 : Int) : Tr (Lap ((List (Int × Int × Int)) × Int × Int × Int × Int) (Sum Int Int)) :=
  .br (decide (from7 < to8)) (
    .bnd (idx rs0 (IntKind.i64.wrap ((IntKind.i64.wrap (from7 + to8)).tdiv 2))) fun x_1 =>
    .br (decide (r1 < x_1.1)) (
      .pure (.next (rs0, r1, other2, from7, IntKind.i64.wrap ((IntKind.i64.wrap (from7 + to8)).tdiv 2)))) (
      .bnd (idx rs0 (IntKind.i64.wrap ((IntKind.i64.wrap (from7 + to8)).tdiv 2))) fun x_2 =>
      .br (decide (r1 > x_2.2.1)) (
        .pure (.next (rs0, r1, other2, IntKind.i64.wrap ((IntKind.i64.wrap ((IntKind.i64.wrap (from7 + to8)).tdiv 2)) + 1), to8))) (
        .bnd (idx rs0 (IntKind.i64.wrap ((IntKind.i64.wrap (from7 + to8)).tdiv 2))) fun x_3 =>
        .pure (.done (.inr x_3.2.2))))) (
    .pure (.done (.inl other2)))
noncomputable def ranges_Find_T (rs0 : List (Int × Int × Int)) (r1 : Int) (other2 : Int) : Tr Int :=
  .alt (loopW (fun s => (ranges_Find_L2 s.1 s.2.1 s.2.2.1 s.2.2.2.1 s.2.2.2.2).run) (rs0, r1, other2, 0, (rs0.length : Int))) (fun l_4 =>
    .pure l_4) (fun l_5 =>
    .pure l_5)
noncomputable def ranges_Find_F (rs0 : List (Int × Int × Int)) (r1 : Int) (other2 : Int) : Option Int := (ranges_Find_T rs0 r1 other2).run
def ranges_Find_L : List (Nat × LoopAnn) := [(2, { head := [.sv 0 false (.sl Td), .sv 1 false Tj, .sv 2 false Ti, .sv 7 true Th, .sv 8 true Th], xid := 0, out := [.sv 2 false Ti], hasRet := true, res := [.sv 6 false Ti] })]
noncomputable def ranges_Find_C : List (Nat × Callee) := []
noncomputable def ranges_Find_fun : Fun := ⟨[.sl Td, Tj, Ti], [.v Ti], fun x => ranges_Find_F x.1 x.2.1 x.2.2.1⟩
theorem ranges_Find_ev (x : Tys.I [.sl Td, Tj, Ti]) : evFun G0 (of_ ranges_Find_C) A0 (ol_ ranges_Find_L) Tryz.f44 [.sl Td, Tj, Ti] [.v Ti] x = ranges_Find_T x.1 x.2.1 x.2.2.1 := by kernel_rfl
theorem ranges_Find_ok : FunOk Tryz.prog 44 ranges_Find_fun := evFun_ok mixed ctx0 (no_calls) Tryz.func44 (by kernel_rfl) _ (fun x => congrArg Tr.run (ranges_Find_ev x)) (by kernel_rfl) (by kernel_rfl)
noncomputable def bidic_rows_T : Tr (List (Int × Int × Int)) :=
  .pure ([((0 : Int), (8 : Int), (9 : Int)), ((9 : Int), (9 : Int), (11 : Int)), ((10 : Int), (10 : Int), (10 : Int)), ((11 : Int), (11 : Int), (11 : Int)), ((12 : Int), (12 : Int), (12 : Int)), ((13 : Int), (13 : Int), (10 : Int)), ((14 : Int), (27 : Int), (9 : Int)), ((28 : Int), (30 : Int), (10 : Int)), ((31 : Int), (31 : Int), (11 : Int)), ((32 : Int), (32 : Int), (12 : Int)), ((33 : Int), (34 : Int), (13 : Int)), ((35 : Int), (37 : Int), (5 : Int)), ((38 : Int), (42 : Int), (13 : Int)), ((43 : Int), (43 : Int), (4 : Int)), ((44 : Int), (44 : Int), (7 : Int)), ((45 : Int), (45 : Int), (4 : Int)), ((46 : Int), (47 : Int), (7 : Int)), ((48 : Int), (57 : Int), (3 : Int)), ((58 : Int), (58 : Int), (7 : Int)), ((59 : Int), (64 : Int), (13 : Int)), ((91 : Int), (96 : Int), (13 : Int)), ((123 : Int), (126 : Int), (13 : Int)), ((127 : Int), (132 : Int), (9 : Int)), ((133 : Int), (133 : Int), (10 : Int)), ((134 : Int), (159 : Int), (9 : Int)), ((160 : Int), (160 : Int), (7 : Int)), ((161 : Int), (161 : Int), (13 : Int)), ((162 : Int), (165 : Int), (5 : Int)), ((166 : Int), (169 : Int), (13 : Int)), ((171 : Int), (172 : Int), (13 : Int)), ((173 : Int), (173 : Int), (9 : Int)), ((174 : Int), (175 : Int), (13 : Int)), ((176 : Int), (177 : Int), (5 : Int)), ((178 : Int), (179 : Int), (3 : Int)), ((180 : Int), (180 : Int), (13 : Int)), ((182 : Int), (184 : Int), (13 : Int)), ((185 : Int), (185 : Int), (3 : Int)), ((187 : Int), (191 : Int), (13 : Int)), ((215 : Int), (215 : Int), (13 : Int)), ((247 : Int), (247 : Int), (13 : Int)), ((768 : Int), (879 : Int), (8 : Int)), ((1155 : Int), (1161 : Int), (8 : Int)), ((1424 : Int), (1424 : Int), (1 : Int)), ((1425 : Int), (1469 : Int), (8 : Int)), ((1470 : Int), (1470 : Int), (1 : Int)), ((1471 : Int), (1471 : Int), (8 : Int)), ((1472 : Int), (1472 : Int), (1 : Int)), ((1473 : Int), (1474 : Int), (8 : Int)), ((1475 : Int), (1475 : Int), (1 : Int)), ((1476 : Int), (1477 : Int), (8 : Int)), ((1478 : Int), (1478 : Int), (1 : Int)), ((1479 : Int), (1479 : Int), (8 : Int)), ((1480 : Int), (1535 : Int), (1 : Int)), ((1536 : Int), (1541 : Int), (6 : Int)), ((1542 : Int), (1543 : Int), (13 : Int)), ((1544 : Int), (1544 : Int), (2 : Int)), ((1545 : Int), (1546 : Int), (5 : Int)), ((1547 : Int), (1547 : Int), (2 : Int)), ((1548 : Int), (1548 : Int), (7 : Int)), ((1549 : Int), (1549 : Int), (2 : Int)), ((1550 : Int), (1551 : Int), (13 : Int)), ((1552 : Int), (1562 : Int), (8 : Int)), ((1563 : Int), (1610 : Int), (2 : Int)), ((1611 : Int), (1631 : Int), (8 : Int)), ((1632 : Int), (1641 : Int), (6 : Int)), ((1642 : Int), (1642 : Int), (5 : Int)), ((1643 : Int), (1644 : Int), (6 : Int)), ((1645 : Int), (1647 : Int), (2 : Int)), ((1648 : Int), (1648 : Int), (8 : Int)), ((1649 : Int), (1749 : Int), (2 : Int)), ((1750 : Int), (1756 : Int), (8 : Int)), ((1757 : Int), (1757 : Int), (6 : Int)), ((1758 : Int), (1758 : Int), (13 : Int)), ((1759 : Int), (1764 : Int), (8 : Int)), ((1765 : Int), (1766 : Int), (2 : Int)), ((1767 : Int), (1768 : Int), (8 : Int)), ((1769 : Int), (1769 : Int), (13 : Int)), ((1770 : Int), (1773 : Int), (8 : Int)), ((1774 : Int), (1775 : Int), (2 : Int)), ((1776 : Int), (1785 : Int), (3 : Int)), ((1786 : Int), (1808 : Int), (2 : Int)), ((1809 : Int), (1809 : Int), (8 : Int)), ((1810 : Int), (1839 : Int), (2 : Int)), ((1840 : Int), (1866 : Int), (8 : Int)), ((1867 : Int), (1957 : Int), (2 : Int)), ((1958 : Int), (1968 : Int), (8 : Int)), ((1969 : Int), (1983 : Int), (2 : Int)), ((1984 : Int), (2026 : Int), (1 : Int)), ((2027 : Int), (2035 : Int), (8 : Int)), ((2036 : Int), (2037 : Int), (1 : Int)), ((2038 : Int), (2041 : Int), (13 : Int)), ((2042 : Int), (2143 : Int), (1 : Int)), ((2144 : Int), (2249 : Int), (2 : Int)), ((2250 : Int), (2273 : Int), (8 : Int)), ((2274 : Int), (2274 : Int), (6 : Int)), ((2275 : Int), (2306 : Int), (8 : Int)), ((2364 : Int), (2364 : Int), (8 : Int)), ((2369 : Int), (2376 : Int), (8 : Int)), ((2381 : Int), (2381 : Int), (8 : Int)), ((3633 : Int), (3633 : Int), (8 : Int)), ((3636 : Int), (3642 : Int), (8 : Int)), ((3647 : Int), (3647 : Int), (5 : Int)), ((3655 : Int), (3662 : Int), (8 : Int)), ((8192 : Int), (8202 : Int), (12 : Int)), ((8203 : Int), (8205 : Int), (9 : Int)), ((8207 : Int), (8207 : Int), (1 : Int)), ((8208 : Int), (8231 : Int), (13 : Int)), ((8232 : Int), (8232 : Int), (12 : Int)), ((8233 : Int), (8233 : Int), (10 : Int)), ((8234 : Int), (8234 : Int), (14 : Int)), ((8235 : Int), (8235 : Int), (16 : Int)), ((8236 : Int), (8236 : Int), (18 : Int)), ((8237 : Int), (8237 : Int), (15 : Int)), ((8238 : Int), (8238 : Int), (17 : Int)), ((8239 : Int), (8239 : Int), (7 : Int)), ((8240 : Int), (8244 : Int), (5 : Int)), ((8245 : Int), (8259 : Int), (13 : Int)), ((8260 : Int), (8260 : Int), (7 : Int)), ((8261 : Int), (8286 : Int), (13 : Int)), ((8287 : Int), (8287 : Int), (12 : Int)), ((8288 : Int), (8293 : Int), (9 : Int)), ((8294 : Int), (8294 : Int), (19 : Int)), ((8295 : Int), (8295 : Int), (20 : Int)), ((8296 : Int), (8296 : Int), (21 : Int)), ((8297 : Int), (8297 : Int), (22 : Int)), ((8298 : Int), (8303 : Int), (9 : Int)), ((8304 : Int), (8304 : Int), (3 : Int)), ((8308 : Int), (8313 : Int), (3 : Int)), ((8314 : Int), (8315 : Int), (4 : Int)), ((8316 : Int), (8318 : Int), (13 : Int)), ((8320 : Int), (8329 : Int), (3 : Int)), ((8330 : Int), (8331 : Int), (4 : Int)), ((8332 : Int), (8334 : Int), (13 : Int)), ((8352 : Int), (8399 : Int), (5 : Int)), ((8400 : Int), (8432 : Int), (8 : Int)), ((8592 : Int), (8721 : Int), (13 : Int)), ((8722 : Int), (8722 : Int), (4 : Int)), ((8723 : Int), (8723 : Int), (5 : Int)), ((8724 : Int), (9013 : Int), (13 : Int)), ((9083 : Int), (9108 : Int), (13 : Int)), ((9312 : Int), (9351 : Int), (13 : Int)), ((9352 : Int), (9371 : Int), (3 : Int)), ((9472 : Int), (10239 : Int), (13 : Int)), ((10496 : Int), (11263 : Int), (13 : Int)), ((12288 : Int), (12288 : Int), (12 : Int)), ((12289 : Int), (12292 : Int), (13 : Int)), ((12296 : Int), (12320 : Int), (13 : Int)), ((12330 : Int), (12333 : Int), (8 : Int)), ((12336 : Int), (12336 : Int), (13 : Int)), ((64285 : Int), (64285 : Int), (1 : Int)), ((64286 : Int), (64286 : Int), (8 : Int)), ((64287 : Int), (64296 : Int), (1 : Int)), ((64297 : Int), (64297 : Int), (4 : Int)), ((64298 : Int), (64335 : Int), (1 : Int)), ((64336 : Int), (64975 : Int), (2 : Int)), ((64976 : Int), (65007 : Int), (9 : Int)), ((65008 : Int), (65023 : Int), (2 : Int)), ((65024 : Int), (65039 : Int), (8 : Int)), ((65056 : Int), (65071 : Int), (8 : Int)), ((65104 : Int), (65104 : Int), (7 : Int)), ((65106 : Int), (65106 : Int), (7 : Int)), ((65109 : Int), (65109 : Int), (7 : Int)), ((65113 : Int), (65118 : Int), (13 : Int)), ((65136 : Int), (65278 : Int), (2 : Int)), ((65279 : Int), (65279 : Int), (9 : Int)), ((65281 : Int), (65282 : Int), (13 : Int)), ((65283 : Int), (65285 : Int), (5 : Int)), ((65286 : Int), (65290 : Int), (13 : Int)), ((65291 : Int), (65291 : Int), (4 : Int)), ((65292 : Int), (65292 : Int), (7 : Int)), ((65293 : Int), (65293 : Int), (4 : Int)), ((65294 : Int), (65295 : Int), (7 : Int)), ((65296 : Int), (65305 : Int), (3 : Int)), ((65306 : Int), (65306 : Int), (7 : Int)), ((65307 : Int), (65312 : Int), (13 : Int)), ((65339 : Int), (65344 : Int), (13 : Int)), ((65371 : Int), (65381 : Int), (13 : Int)), ((67584 : Int), (69631 : Int), (1 : Int)), ((120782 : Int), (120831 : Int), (3 : Int)), ((124928 : Int), (125135 : Int), (1 : Int)), ((125136 : Int), (125142 : Int), (8 : Int)), ((125143 : Int), (126063 : Int), (1 : Int)), ((126064 : Int), (126719 : Int), (2 : Int)), ((126720 : Int), (126975 : Int), (1 : Int)), ((127744 : Int), (129791 : Int), (13 : Int)), ((917504 : Int), (917759 : Int), (9 : Int)), ((917760 : Int), (917999 : Int), (8 : Int)), ((918000 : Int), (921599 : Int), (9 : Int))])
noncomputable def bidic_rows_F : Option (List (Int × Int × Int)) := (bidic_rows_T).run
def bidic_rows_L : List (Nat × LoopAnn) := []
noncomputable def bidic_rows_C : List (Nat × Callee) := []
noncomputable def bidic_rows_fun : Fun := ⟨[], [.row 199 Td], fun _ => bidic_rows_F⟩
theorem bidic_rows_ev (x : Tys.I []) : evFun G0 (of_ bidic_rows_C) A0 (ol_ bidic_rows_L) Tryz.f90 [] [.row 199 Td] x = bidic_rows_T := by kernel_rfl
theorem bidic_rows_ok : FunOk Tryz.prog 90 bidic_rows_fun := evFun_ok mixed ctx0 (no_calls) Tryz.func90 (by kernel_rfl) _ (fun x => congrArg Tr.run (bidic_rows_ev x)) (by kernel_rfl) (by kernel_rfl)
noncomputable def bidic_Table_L4 (rs2 : List (Int × Int × Int)) (t9 : List (Int × Int × Int)) (t10 : Int) (t11 : Int) : Tr (Lap ((List (Int × Int × Int)) × (List (Int × Int × Int)) × Int × Int) (List (Int × Int × Int))) :=
  .br (decide (t11 < t10)) (
    .bnd (idx t9 t11) fun x_3 =>
    .bnd (idx ([x_3]) 0) fun x_4 =>
    .bnd (idx ([x_3]) 0) fun x_5 =>
    .bnd (idx ([x_3]) 0) fun x_6 =>
    .bnd (idx rs2 t11) fun x_7 =>
    .pure (.next (rs2.set (Int.toNat t11) (x_4.1, x_5.2.1, x_6.2.2), t9, t10, IntKind.i64.wrap (t11 + 1)))) (
    .pure (.done rs2))
noncomputable def bidic_Table_T : Tr (List (Int × Int × Int)) :=
  .bnd bidic_rows_F fun c_1 =>
  .bnd (mk 11728124029610 (0, (0, 0)) (c_1.length : Int)) fun r_2 =>
  .bnd (loopW (fun s => (bidic_Table_L4 s.1 s.2.1 s.2.2.1 s.2.2.2).run) (r_2, c_1, (c_1.length : Int), 0)) fun l_8 =>
  .pure l_8
noncomputable def bidic_Table_F : Option (List (Int × Int × Int)) := (bidic_Table_T).run
def bidic_Table_L : List (Nat × LoopAnn) := [(4, { head := [.srow 2 1000002 179 true Td, .srow 9 1000009 199 true Td, .sv 10 true Th, .sv 11 true Th], xid := 0, out := [.srow 2 1000002 179 true Td], hasRet := false, res := [] })]
noncomputable def bidic_Table_C : List (Nat × Callee) := [(90, .plain bidic_rows_fun)]
noncomputable def bidic_Table_fun : Fun := ⟨[], [.row 179 Td], fun _ => bidic_Table_F⟩
theorem bidic_Table_ev (x : Tys.I []) : evFun G0 (of_ bidic_Table_C) A0 (ol_ bidic_Table_L) Tryz.f62 [] [.row 179 Td] x = bidic_Table_T := by kernel_rfl
theorem bidic_Table_ok : FunOk Tryz.prog 62 bidic_Table_fun := evFun_ok mixed ctx0 (pc bidic_rows_ok (no_calls)) Tryz.func62 (by kernel_rfl) _ (fun x => congrArg Tr.run (bidic_Table_ev x)) (by kernel_rfl) (by kernel_rfl)
noncomputable def bidic_Of_L4 (table3 : List (Int × Int × Int)) (cs4 : List Int) (t11 : List Int) (t12 : Int) (t13 : Int) : Tr (Lap ((List (Int × Int × Int)) × List Int × List Int × Int × Int) (List Int)) :=
  .br (decide (t13 < t12)) (
    .bnd (idx t11 t13) fun x_3 =>
    .bnd (ranges_Find_F table3 x_3 0) fun c_4 =>
    .bnd (idx cs4 t13) fun x_5 =>
    .pure (.next (table3, cs4.set (Int.toNat t13) c_4, t11, t12, IntKind.i64.wrap (t13 + 1)))) (
    .pure (.done cs4))
noncomputable def bidic_Of_T (rs0 : List Int) : Tr (List Int) :=
  .bnd bidic_Table_F fun c_1 =>
  .bnd (mk 140737488355328 0 (rs0.length : Int)) fun r_2 =>
  .bnd (loopW (fun s => (bidic_Of_L4 s.1 s.2.1 s.2.2.1 s.2.2.2.1 s.2.2.2.2).run) (c_1, r_2, rs0, (rs0.length : Int), 0)) fun l_6 =>
  .pure l_6
noncomputable def bidic_Of_F (rs0 : List Int) : Option (List Int) := (bidic_Of_T rs0).run
def bidic_Of_L : List (Nat × LoopAnn) := [(4, { head := [.srow 3 1000003 179 true Td, .srow 4 1000004 156 true Ti, .sv 11 false Tg, .sv 12 true Th, .sv 13 true Th], xid := 0, out := [.srow 4 1000004 156 true Ti], hasRet := false, res := [] })]
noncomputable def bidic_Of_C : List (Nat × Callee) := [(62, .plain bidic_Table_fun), (44, .plain ranges_Find_fun)]
noncomputable def bidic_Of_fun : Fun := ⟨[.sl Tj], [.row 156 Ti], fun x => bidic_Of_F x.1⟩
theorem bidic_Of_ev (x : Tys.I [.sl Tj]) : evFun G0 (of_ bidic_Of_C) A0 (ol_ bidic_Of_L) Tryz.f38 [.sl Tj] [.row 156 Ti] x = bidic_Of_T x.1 := by kernel_rfl
theorem bidic_Of_ok : FunOk Tryz.prog 38 bidic_Of_fun := evFun_ok mixed ctx0 (pc bidic_Table_ok (pc ranges_Find_ok (no_calls))) Tryz.func38 (by kernel_rfl) _ (fun x => congrArg Tr.run (bidic_Of_ev x)) (by kernel_rfl) (by kernel_rfl)
noncomputable def para_next_L2 (rs0 : List Int) (cs1 : List Int) (from2 : Int) (t6 : Int × Int × Int) (i7 : Int) : Tr (Lap (List Int × List Int × Int × (Int × Int × Int) × Int) (Sum (List Int × Int × Int × Int × Int) (Int × Int × Int))) :=
  .br (decide (i7 < (rs0.length : Int))) (
    .bnd (idx cs1 i7) fun x_1 =>
    .br (x_1 != 10) (
      .pure (.next (rs0, cs1, from2, t6, IntKind.i64.wrap (i7 + 1)))) (
      .bnd (idx rs0 i7) fun x_2 =>
      .br (x_2 == 13) (
        .br (decide ((IntKind.i64.wrap (i7 + 1)) < (rs0.length : Int))) (
          .bnd (idx rs0 (IntKind.i64.wrap (i7 + 1))) fun x_3 =>
          .br (x_3 == 10) (
            .pure (.done (.inr (from2, IntKind.i64.wrap (i7 + 2), (2 : Int))))) (
            .pure (.done (.inr (from2, IntKind.i64.wrap (i7 + 1), (1 : Int)))))) (
          .pure (.done (.inr (from2, IntKind.i64.wrap (i7 + 1), (1 : Int)))))) (
        .pure (.done (.inr (from2, IntKind.i64.wrap (i7 + 1), (1 : Int))))))) (
    .pure (.done (.inl (rs0, from2, t6))))
noncomputable def para_next_T (rs0 : List Int) (cs1 : List Int) (from2 : Int) : Tr (Int × Int × Int) :=
  .alt (loopW (fun s => (para_next_L2 s.1 s.2.1 s.2.2.1 s.2.2.2.1 s.2.2.2.2).run) (rs0, cs1, from2, (0, 0, 0), from2)) (fun l_4 =>
    .pure (l_4.2.1, (l_4.1.length : Int), (0 : Int))) (fun l_5 =>
    .pure l_5)
noncomputable def para_next_F (rs0 : List Int) (cs1 : List Int) (from2 : Int) : Option (Int × Int × Int) := (para_next_T rs0 cs1 from2).run
def para_next_L : List (Nat × LoopAnn) := [(2, { head := [.sv 0 false Tg, .sv 1 false Tf, .sv 2 false Th, .sbox 6 1000006 108 true Tc, .sv 7 false Th], xid := 0, out := [.sv 0 false Tg, .sv 2 false Th, .sbox 6 1000006 108 true Tc], hasRet := true, res := [.sbox 6 1000006 108 true Tc] })]
noncomputable def para_next_C : List (Nat × Callee) := []
noncomputable def para_next_fun : Fun := ⟨[.sl Tj, .sl Ti, Th], [.v Tc], fun x => para_next_F x.1 x.2.1 x.2.2.1⟩
theorem para_next_ev (x : Tys.I [.sl Tj, .sl Ti, Th]) : evFun G0 (of_ para_next_C) A0 (ol_ para_next_L) Tryz.f63 [.sl Tj, .sl Ti, Th] [.v Tc] x = para_next_T x.1 x.2.1 x.2.2.1 := by kernel_rfl
theorem para_next_ok : FunOk Tryz.prog 63 para_next_fun := evFun_ok mixed ctx0 (no_calls) Tryz.func63 (by kernel_rfl) _ (fun x => congrArg Tr.run (para_next_ev x)) (by kernel_rfl) (by kernel_rfl)
noncomputable def para_Split_L4 (rs0 : List Int) (cs1 : List Int) (n5 : Int) (ps6 : List (Int × Int × Int)) (from7 : Int) : Tr (Lap (List Int × List Int × Int × (List (Int × Int × Int)) × Int) (List (Int × Int × Int))) :=
  .br (decide (from7 < n5)) (
    .bnd (cut rs0 0 n5) fun r_1 =>
    .bnd (para_next_F r_1 cs1 from7) fun c_2 =>
    .bnd (idx ([c_2]) 0) fun x_3 =>
    .bnd (app 5864062014805 ps6 ([x_3])) fun r_4 =>
    .bnd (idx ([c_2]) 0) fun x_5 =>
    .pure (.next (rs0, cs1, n5, r_4, x_5.2.1))) (
    .pure (.done ps6))
noncomputable def para_Split_T (rs0 : List Int) (cs1 : List Int) : Tr (List (Int × Int × Int)) :=
  .bnd (loopW (fun s => (para_Split_L4 s.1 s.2.1 s.2.2.1 s.2.2.2.1 s.2.2.2.2).run) (rs0, cs1, if (cs1.length : Int) < (rs0.length : Int) then (cs1.length : Int) else (rs0.length : Int), [], 0)) fun l_6 =>
  .pure l_6
noncomputable def para_Split_F (rs0 : List Int) (cs1 : List Int) : Option (List (Int × Int × Int)) := (para_Split_T rs0 cs1).run
def para_Split_L : List (Nat × LoopAnn) := [(4, { head := [.sv 0 false Tg, .sv 1 false Tf, .sv 5 true Th, .srow 6 1000006 108 true Tc, .sv 7 true Th], xid := 0, out := [.srow 6 1000006 108 true Tc], hasRet := false, res := [] })]
noncomputable def para_Split_C : List (Nat × Callee) := [(63, .plain para_next_fun)]
noncomputable def para_Split_fun : Fun := ⟨[.sl Tj, .sl Ti], [.row 108 Tc], fun x => para_Split_F x.1 x.2.1⟩
theorem para_Split_ev (x : Tys.I [.sl Tj, .sl Ti]) : evFun G0 (of_ para_Split_C) A0 (ol_ para_Split_L) Tryz.f39 [.sl Tj, .sl Ti] [.row 108 Tc] x = para_Split_T x.1 x.2.1 := by kernel_rfl
theorem para_Split_ok : FunOk Tryz.prog 39 para_Split_fun := evFun_ok mixed ctx0 (pc para_next_ok (no_calls)) Tryz.func39 (by kernel_rfl) _ (fun x => congrArg Tr.run (para_Split_ev x)) (by kernel_rfl) (by kernel_rfl)
noncomputable def explicit_rightward_L5 (cs0 : List Int) (answers3 : List Bool) (right4 : Bool) (outside5 : List Bool) (i6 : Int) : Tr (Lap (List Int × List Bool × Bool × List Bool × Int) (List Bool)) :=
  .br (decide (i6 ≥ 0)) (
    .bnd (idx cs0 i6) fun x_2 =>
    .br (x_2 == 22) (
      .bnd (app 140737488355328 outside5 ([right4])) fun r_3 =>
      .pure (.next (cs0, answers3, false, r_3, IntKind.i64.wrap (i6 - 1)))) (
      .bnd (bidic_Isolate_F x_2) fun c_4 =>
      .br c_4 (
        .bnd (idx answers3 i6) fun x_5 =>
        .br (decide ((IntKind.i64.wrap ((outside5.length : Int) - 1)) ≥ 0)) (
          .bnd (idx outside5 (IntKind.i64.wrap ((outside5.length : Int) - 1))) fun x_6 =>
          .bnd (cut outside5 0 (IntKind.i64.wrap ((outside5.length : Int) - 1))) fun r_7 =>
          .pure (.next (cs0, answers3.set (Int.toNat i6) right4, x_6, r_7, IntKind.i64.wrap (i6 - 1)))) (
          .pure (.next (cs0, answers3.set (Int.toNat i6) right4, false, outside5, IntKind.i64.wrap (i6 - 1))))) (
        .bnd (bidic_Strong_F x_2) fun c_8 =>
        .br c_8 (
          .pure (.next (cs0, answers3, x_2 != 0, outside5, IntKind.i64.wrap (i6 - 1)))) (
          .pure (.next (cs0, answers3, right4, outside5, IntKind.i64.wrap (i6 - 1))))))) (
    .pure (.done answers3))
noncomputable def explicit_rightward_T (cs0 : List Int) : Tr (List Bool) :=
  .bnd (mk 140737488355328 false (cs0.length : Int)) fun r_1 =>
  .bnd (loopW (fun s => (explicit_rightward_L5 s.1 s.2.1 s.2.2.1 s.2.2.2.1 s.2.2.2.2).run) (cs0, r_1, false, [], IntKind.i64.wrap ((cs0.length : Int) - 1))) fun l_9 =>
  .pure l_9
noncomputable def explicit_rightward_F (cs0 : List Int) : Option (List Bool) := (explicit_rightward_T cs0).run
def explicit_rightward_L : List (Nat × LoopAnn) := [(5, { head := [.sv 0 false Tf, .srow 3 1000003 4 true .bool, .sv 4 true .bool, .srow 5 1000005 4 true .bool, .sv 6 true Th], xid := 0, out := [.srow 3 1000003 4 true .bool], hasRet := false, res := [] })]
noncomputable def explicit_rightward_C : List (Nat × Callee) := [(87, .plain bidic_Isolate_fun), (88, .plain bidic_Strong_fun)]
noncomputable def explicit_rightward_fun : Fun := ⟨[.sl Ti], [.row 4 .bool], fun x => explicit_rightward_F x.1⟩
theorem explicit_rightward_ev (x : Tys.I [.sl Ti]) : evFun G0 (of_ explicit_rightward_C) ⟨[48], [], [], [], [], []⟩ (ol_ explicit_rightward_L) Tryz.f91 [.sl Ti] [.row 4 .bool] x = explicit_rightward_T x.1 := by kernel_rfl
theorem explicit_rightward_ok : FunOk Tryz.prog 91 explicit_rightward_fun := evFun_ok mixed ctx0 (pc bidic_Isolate_ok (pc bidic_Strong_ok (no_calls))) Tryz.func91 (by kernel_rfl) _ (fun x => congrArg Tr.run (explicit_rightward_ev x)) (by kernel_rfl) (by kernel_rfl)
noncomputable def bidic_Embedding_T (c0 : Int) : Tr Bool :=
  .br (c0 == 14) (
    .pure true) (
    .br (c0 == 15) (
      .pure true) (
      .br (c0 == 16) (
        .pure true) (
        .pure (c0 == 17))))
noncomputable def bidic_Embedding_F (c0 : Int) : Option Bool := (bidic_Embedding_T c0).run
def bidic_Embedding_L : List (Nat × LoopAnn) := []
noncomputable def bidic_Embedding_C : List (Nat × Callee) := []
noncomputable def bidic_Embedding_fun : Fun := ⟨[Ti], [.v .bool], fun x => bidic_Embedding_F x.1⟩
theorem bidic_Embedding_ev (x : Tys.I [Ti]) : evFun G0 (of_ bidic_Embedding_C) A0 (ol_ bidic_Embedding_L) Tryz.f92 [Ti] [.v .bool] x = bidic_Embedding_T x.1 := by kernel_rfl
theorem bidic_Embedding_ok : FunOk Tryz.prog 92 bidic_Embedding_fun := evFun_ok mixed ctx0 (no_calls) Tryz.func92 (by kernel_rfl) _ (fun x => congrArg Tr.run (bidic_Embedding_ev x)) (by kernel_rfl) (by kernel_rfl)
noncomputable def explicit_state_top_T (s0 : (List (Int × Int × Bool)) × Int × Int × Int) : Tr (((List (Int × Int × Bool)) × Int × Int × Int) × (Int × Int × Bool)) :=
  .bnd (idx s0.1 (IntKind.i64.wrap ((s0.1.length : Int) - 1))) fun x_1 =>
  .pure ((s0.1, s0.2.1, s0.2.2.1, s0.2.2.2), x_1)
noncomputable def explicit_state_top_F (s0 : (List (Int × Int × Bool)) × Int × Int × Int) : Option (((List (Int × Int × Bool)) × Int × Int × Int) × (Int × Int × Bool)) := (explicit_state_top_T s0).run
def explicit_state_top_L : List (Nat × LoopAnn) := []
noncomputable def explicit_state_top_C : List (Nat × Callee) := []
noncomputable def explicit_state_top_fun : HFun := ⟨205, (.st (.pair (.sl Tb) (.pair Th (.pair Th Th)))), [(0, 202)], [], [.v Tb], fun s _ => explicit_state_top_F s⟩
theorem explicit_state_top_ev (s : (List (Int × Int × Bool)) × Int × Int × Int) (x : Tys.I []) : evFunH G0 (of_ explicit_state_top_C) A0 (ol_ explicit_state_top_L) Tryz.f94 205 (.st (.pair (.sl Tb) (.pair Th (.pair Th Th)))) [(0, 202)] [] [.v Tb] s x = explicit_state_top_T s := by kernel_rfl
theorem explicit_state_top_ok : HBoxOk Tryz.prog 94 explicit_state_top_fun := evFunH_ok mixed ctx0 (no_calls) Tryz.func94 (by kernel_rfl) _ (fun s x => congrArg Tr.run (explicit_state_top_ev s x)) (by kernel_rfl)
noncomputable def explicit_state_next_T (s0 : (List (Int × Int × Bool)) × Int × Int × Int) (right1 : Bool) : Tr (((List (Int × Int × Bool)) × Int × Int × Int) × Int) :=
  .br right1 (
    .bnd (explicit_state_top_F (s0.1, s0.2.1, s0.2.2.1, s0.2.2.2)) fun c_1 =>
    .pure ((c_1.1.1, c_1.1.2.1, c_1.1.2.2.1, c_1.1.2.2.2), ibits .or .i64 (IntKind.i64.wrap (c_1.2.1 + 1)) 1)) (
    .bnd (explicit_state_top_F (s0.1, s0.2.1, s0.2.2.1, s0.2.2.2)) fun c_2 =>
    .pure ((c_2.1.1, c_2.1.2.1, c_2.1.2.2.1, c_2.1.2.2.2), ibits .andNot .i64 (IntKind.i64.wrap (c_2.2.1 + 2)) 1))
noncomputable def explicit_state_next_F (s0 : (List (Int × Int × Bool)) × Int × Int × Int) (right1 : Bool) : Option (((List (Int × Int × Bool)) × Int × Int × Int) × Int) := (explicit_state_next_T s0 right1).run
def explicit_state_next_L : List (Nat × LoopAnn) := []
noncomputable def explicit_state_next_C : List (Nat × Callee) := [(94, .hbox explicit_state_top_fun)]
noncomputable def explicit_state_next_fun : HFun := ⟨205, (.st (.pair (.sl Tb) (.pair Th (.pair Th Th)))), [(0, 202)], [.bool], [.v Th], fun s x => explicit_state_next_F s x.1⟩
theorem explicit_state_next_ev (s : (List (Int × Int × Bool)) × Int × Int × Int) (x : Tys.I [.bool]) : evFunH G0 (of_ explicit_state_next_C) ⟨[], [], [94], [], [], []⟩ (ol_ explicit_state_next_L) Tryz.f118 205 (.st (.pair (.sl Tb) (.pair Th (.pair Th Th)))) [(0, 202)] [.bool] [.v Th] s x = explicit_state_next_T s x.1 := by kernel_rfl
theorem explicit_state_next_ok : HBoxOk Tryz.prog 118 explicit_state_next_fun := evFunH_ok mixed ctx0 (cons_calls (fb := .hbox explicit_state_top_fun) explicit_state_top_ok (fun h => by rfl) (no_calls)) Tryz.func118 (by kernel_rfl) _ (fun s x => congrArg Tr.run (explicit_state_next_ev s x)) (by kernel_rfl)
noncomputable def explicit_state_fits_T (s0 : (List (Int × Int × Bool)) × Int × Int × Int) (level1 : Int) : Tr (((List (Int × Int × Bool)) × Int × Int × Int) × Bool) :=
  .br (decide (level1 ≤ 125)) (
    .bnd (idx ([((), s0.2.1, s0.2.2.1, s0.2.2.2)]) 0) fun x_1 =>
    .br (x_1.2.1 == 0) (
      .bnd (idx ([((), s0.2.1, s0.2.2.1, s0.2.2.2)]) 0) fun x_2 =>
      .pure ((s0.1, s0.2.1, s0.2.2.1, s0.2.2.2), x_2.2.2.1 == 0)) (
      .pure ((s0.1, s0.2.1, s0.2.2.1, s0.2.2.2), false))) (
    .pure ((s0.1, s0.2.1, s0.2.2.1, s0.2.2.2), false))
noncomputable def explicit_state_fits_F (s0 : (List (Int × Int × Bool)) × Int × Int × Int) (level1 : Int) : Option (((List (Int × Int × Bool)) × Int × Int × Int) × Bool) := (explicit_state_fits_T s0 level1).run
def explicit_state_fits_L : List (Nat × LoopAnn) := []
noncomputable def explicit_state_fits_C : List (Nat × Callee) := []
noncomputable def explicit_state_fits_fun : HFun := ⟨205, (.st (.pair (.sl Tb) (.pair Th (.pair Th Th)))), [(0, 202)], [Th], [.v .bool], fun s x => explicit_state_fits_F s x.1⟩
theorem explicit_state_fits_ev (s : (List (Int × Int × Bool)) × Int × Int × Int) (x : Tys.I [Th]) : evFunH G0 (of_ explicit_state_fits_C) A0 (ol_ explicit_state_fits_L) Tryz.f119 205 (.st (.pair (.sl Tb) (.pair Th (.pair Th Th)))) [(0, 202)] [Th] [.v .bool] s x = explicit_state_fits_T s x.1 := by kernel_rfl
theorem explicit_state_fits_ok : HBoxOk Tryz.prog 119 explicit_state_fits_fun := evFunH_ok mixed ctx0 (no_calls) Tryz.func119 (by kernel_rfl) _ (fun s x => congrArg Tr.run (explicit_state_fits_ev s x)) (by kernel_rfl)
noncomputable def explicit_state_push_T (s0 : (List (Int × Int × Bool)) × Int × Int × Int) (x1 : Int × Int × Bool) : Tr (((List (Int × Int × Bool)) × Int × Int × Int) × Unit) :=
  .bnd (app 8796093022208 s0.1 ([x1])) fun r_1 =>
  .pure ((r_1, s0.2.1, s0.2.2.1, s0.2.2.2), ())
noncomputable def explicit_state_push_F (s0 : (List (Int × Int × Bool)) × Int × Int × Int) (x1 : Int × Int × Bool) : Option (((List (Int × Int × Bool)) × Int × Int × Int) × Unit) := (explicit_state_push_T s0 x1).run
def explicit_state_push_L : List (Nat × LoopAnn) := []
noncomputable def explicit_state_push_C : List (Nat × Callee) := []
noncomputable def explicit_state_push_fun : HFun := ⟨205, (.st (.pair (.sl Tb) (.pair Th (.pair Th Th)))), [(0, 202)], [.st (.pair Th (.pair Ti .bool))], [], fun s x => explicit_state_push_F s x.1⟩
theorem explicit_state_push_ev (s : (List (Int × Int × Bool)) × Int × Int × Int) (x : Tys.I [.st (.pair Th (.pair Ti .bool))]) : evFunH G0 (of_ explicit_state_push_C) A0 (ol_ explicit_state_push_L) Tryz.f120 205 (.st (.pair (.sl Tb) (.pair Th (.pair Th Th)))) [(0, 202)] [.st (.pair Th (.pair Ti .bool))] [] s x = explicit_state_push_T s x.1 := by kernel_rfl
theorem explicit_state_push_ok : HBoxOk Tryz.prog 120 explicit_state_push_fun := evFunH_ok mixed ctx0 (no_calls) Tryz.func120 (by kernel_rfl) _ (fun s x => congrArg Tr.run (explicit_state_push_ev s x)) (by kernel_rfl)
noncomputable def explicit_override_T (c0 : Int) : Tr Int :=
  .br (c0 == 17) (
    .pure 1) (
    .br (c0 == 15) (
      .pure 0) (
      .pure 13))
noncomputable def explicit_override_F (c0 : Int) : Option Int := (explicit_override_T c0).run
def explicit_override_L : List (Nat × LoopAnn) := []
noncomputable def explicit_override_C : List (Nat × Callee) := []
noncomputable def explicit_override_fun : Fun := ⟨[Ti], [.v Ti], fun x => explicit_override_F x.1⟩
theorem explicit_override_ev (x : Tys.I [Ti]) : evFun G0 (of_ explicit_override_C) A0 (ol_ explicit_override_L) Tryz.f121 [Ti] [.v Ti] x = explicit_override_T x.1 := by kernel_rfl
theorem explicit_override_ok : FunOk Tryz.prog 121 explicit_override_fun := evFun_ok mixed ctx0 (no_calls) Tryz.func121 (by kernel_rfl) _ (fun x => congrArg Tr.run (explicit_override_ev x)) (by kernel_rfl) (by kernel_rfl)
noncomputable def explicit_state_embed_T (s0 : (List (Int × Int × Bool)) × Int × Int × Int) (c1 : Int) : Tr (((List (Int × Int × Bool)) × Int × Int × Int) × Unit) :=
  .br (c1 == 16) (
    .bnd (explicit_state_next_F (s0.1, s0.2.1, s0.2.2.1, s0.2.2.2) true) fun c_1 =>
    .bnd (explicit_state_fits_F (c_1.1.1, c_1.1.2.1, c_1.1.2.2.1, c_1.1.2.2.2) c_1.2) fun c_2 =>
    .br c_2.2 (
      .bnd (explicit_override_F c1) fun c_3 =>
      .bnd (explicit_state_push_F (c_2.1.1, c_2.1.2.1, c_2.1.2.2.1, c_2.1.2.2.2) (c_1.2, c_3, false)) fun c_4 =>
      .pure ((c_4.1.1, c_4.1.2.1, c_4.1.2.2.1, c_4.1.2.2.2), ())) (
      .bnd (idx ([((), c_2.1.2.1, c_2.1.2.2.1, c_2.1.2.2.2)]) 0) fun x_5 =>
      .br (x_5.2.1 == 0) (
        .bnd (idx ([((), c_2.1.2.1, c_2.1.2.2.1, c_2.1.2.2.2)]) 0) fun x_6 =>
        .bnd (idx ([((), c_2.1.2.1, c_2.1.2.2.1, c_2.1.2.2.2)]) 0) fun x_7 =>
        .pure ((c_2.1.1, x_7.2.1, IntKind.i64.wrap (x_6.2.2.1 + 1), x_7.2.2.2), ())) (
        .pure ((c_2.1.1, c_2.1.2.1, c_2.1.2.2.1, c_2.1.2.2.2), ())))) (
    .bnd (explicit_state_next_F (s0.1, s0.2.1, s0.2.2.1, s0.2.2.2) (c1 == 17)) fun c_8 =>
    .bnd (explicit_state_fits_F (c_8.1.1, c_8.1.2.1, c_8.1.2.2.1, c_8.1.2.2.2) c_8.2) fun c_9 =>
    .br c_9.2 (
      .bnd (explicit_override_F c1) fun c_10 =>
      .bnd (explicit_state_push_F (c_9.1.1, c_9.1.2.1, c_9.1.2.2.1, c_9.1.2.2.2) (c_8.2, c_10, false)) fun c_11 =>
      .pure ((c_11.1.1, c_11.1.2.1, c_11.1.2.2.1, c_11.1.2.2.2), ())) (
      .bnd (idx ([((), c_9.1.2.1, c_9.1.2.2.1, c_9.1.2.2.2)]) 0) fun x_12 =>
      .br (x_12.2.1 == 0) (
        .bnd (idx ([((), c_9.1.2.1, c_9.1.2.2.1, c_9.1.2.2.2)]) 0) fun x_13 =>
        .bnd (idx ([((), c_9.1.2.1, c_9.1.2.2.1, c_9.1.2.2.2)]) 0) fun x_14 =>
        .pure ((c_9.1.1, x_14.2.1, IntKind.i64.wrap (x_13.2.2.1 + 1), x_14.2.2.2), ())) (
        .pure ((c_9.1.1, c_9.1.2.1, c_9.1.2.2.1, c_9.1.2.2.2), ()))))
noncomputable def explicit_state_embed_F (s0 : (List (Int × Int × Bool)) × Int × Int × Int) (c1 : Int) : Option (((List (Int × Int × Bool)) × Int × Int × Int) × Unit) := (explicit_state_embed_T s0 c1).run
def explicit_state_embed_L : List (Nat × LoopAnn) := []
noncomputable def explicit_state_embed_C : List (Nat × Callee) := [(118, .hbox explicit_state_next_fun), (119, .hbox explicit_state_fits_fun), (121, .plain explicit_override_fun), (120, .hbox explicit_state_push_fun)]
noncomputable def explicit_state_embed_fun : HFun := ⟨205, (.st (.pair (.sl Tb) (.pair Th (.pair Th Th)))), [(0, 202)], [Ti], [], fun s x => explicit_state_embed_F s x.1⟩
theorem explicit_state_embed_ev (s : (List (Int × Int × Bool)) × Int × Int × Int) (x : Tys.I [Ti]) : evFunH G0 (of_ explicit_state_embed_C) ⟨[], [], [118, 119, 120], [], [], []⟩ (ol_ explicit_state_embed_L) Tryz.f93 205 (.st (.pair (.sl Tb) (.pair Th (.pair Th Th)))) [(0, 202)] [Ti] [] s x = explicit_state_embed_T s x.1 := by kernel_rfl
theorem explicit_state_embed_ok : HBoxOk Tryz.prog 93 explicit_state_embed_fun := evFunH_ok mixed ctx0 (cons_calls (fb := .hbox explicit_state_next_fun) explicit_state_next_ok (fun h => by rfl) (cons_calls (fb := .hbox explicit_state_fits_fun) explicit_state_fits_ok (fun h => by rfl) (pc explicit_override_ok (cons_calls (fb := .hbox explicit_state_push_fun) explicit_state_push_ok (fun h => by rfl) (no_calls))))) Tryz.func93 (by kernel_rfl) _ (fun s x => congrArg Tr.run (explicit_state_embed_ev s x)) (by kernel_rfl)
noncomputable def explicit_state_under_T (s0 : (List (Int × Int × Bool)) × Int × Int × Int) (c1 : Int) : Tr (((List (Int × Int × Bool)) × Int × Int × Int) × Int) :=
  .bnd (explicit_state_top_F (s0.1, s0.2.1, s0.2.2.1, s0.2.2.2)) fun c_1 =>
  .br (c_1.2.2.1 == 13) (
    .pure ((c_1.1.1, c_1.1.2.1, c_1.1.2.2.1, c_1.1.2.2.2), c1)) (
    .bnd (explicit_state_top_F (c_1.1.1, c_1.1.2.1, c_1.1.2.2.1, c_1.1.2.2.2)) fun c_2 =>
    .pure ((c_2.1.1, c_2.1.2.1, c_2.1.2.2.1, c_2.1.2.2.2), c_2.2.2.1))
noncomputable def explicit_state_under_F (s0 : (List (Int × Int × Bool)) × Int × Int × Int) (c1 : Int) : Option (((List (Int × Int × Bool)) × Int × Int × Int) × Int) := (explicit_state_under_T s0 c1).run
def explicit_state_under_L : List (Nat × LoopAnn) := []
noncomputable def explicit_state_under_C : List (Nat × Callee) := [(94, .hbox explicit_state_top_fun)]
noncomputable def explicit_state_under_fun : HFun := ⟨205, (.st (.pair (.sl Tb) (.pair Th (.pair Th Th)))), [(0, 202)], [Ti], [.v Ti], fun s x => explicit_state_under_F s x.1⟩
theorem explicit_state_under_ev (s : (List (Int × Int × Bool)) × Int × Int × Int) (x : Tys.I [Ti]) : evFunH G0 (of_ explicit_state_under_C) ⟨[], [], [94], [], [], []⟩ (ol_ explicit_state_under_L) Tryz.f95 205 (.st (.pair (.sl Tb) (.pair Th (.pair Th Th)))) [(0, 202)] [Ti] [.v Ti] s x = explicit_state_under_T s x.1 := by kernel_rfl
theorem explicit_state_under_ok : HBoxOk Tryz.prog 95 explicit_state_under_fun := evFunH_ok mixed ctx0 (cons_calls (fb := .hbox explicit_state_top_fun) explicit_state_top_ok (fun h => by rfl) (no_calls)) Tryz.func95 (by kernel_rfl) _ (fun s x => congrArg Tr.run (explicit_state_under_ev s x)) (by kernel_rfl)
noncomputable def explicit_state_enter_T (s0 : (List (Int × Int × Bool)) × Int × Int × Int) (right1 : Bool) : Tr (((List (Int × Int × Bool)) × Int × Int × Int) × Unit) :=
  .bnd (explicit_state_next_F (s0.1, s0.2.1, s0.2.2.1, s0.2.2.2) right1) fun c_1 =>
  .bnd (explicit_state_fits_F (c_1.1.1, c_1.1.2.1, c_1.1.2.2.1, c_1.1.2.2.2) c_1.2) fun c_2 =>
  .br c_2.2 (
    .bnd (idx ([((), c_2.1.2.1, c_2.1.2.2.1, c_2.1.2.2.2)]) 0) fun x_3 =>
    .bnd (idx ([((), c_2.1.2.1, c_2.1.2.2.1, c_2.1.2.2.2)]) 0) fun x_4 =>
    .bnd (explicit_state_push_F (c_2.1.1, x_4.2.1, x_4.2.2.1, IntKind.i64.wrap (x_3.2.2.2 + 1)) (c_1.2, (13 : Int), true)) fun c_5 =>
    .pure ((c_5.1.1, c_5.1.2.1, c_5.1.2.2.1, c_5.1.2.2.2), ())) (
    .bnd (idx ([((), c_2.1.2.1, c_2.1.2.2.1, c_2.1.2.2.2)]) 0) fun x_6 =>
    .bnd (idx ([((), c_2.1.2.1, c_2.1.2.2.1, c_2.1.2.2.2)]) 0) fun x_7 =>
    .pure ((c_2.1.1, IntKind.i64.wrap (x_6.2.1 + 1), x_7.2.2.1, x_7.2.2.2), ()))
noncomputable def explicit_state_enter_F (s0 : (List (Int × Int × Bool)) × Int × Int × Int) (right1 : Bool) : Option (((List (Int × Int × Bool)) × Int × Int × Int) × Unit) := (explicit_state_enter_T s0 right1).run
def explicit_state_enter_L : List (Nat × LoopAnn) := []
noncomputable def explicit_state_enter_C : List (Nat × Callee) := [(118, .hbox explicit_state_next_fun), (119, .hbox explicit_state_fits_fun), (120, .hbox explicit_state_push_fun)]
noncomputable def explicit_state_enter_fun : HFun := ⟨205, (.st (.pair (.sl Tb) (.pair Th (.pair Th Th)))), [(0, 202)], [.bool], [], fun s x => explicit_state_enter_F s x.1⟩
theorem explicit_state_enter_ev (s : (List (Int × Int × Bool)) × Int × Int × Int) (x : Tys.I [.bool]) : evFunH G0 (of_ explicit_state_enter_C) ⟨[], [], [118, 119, 120], [], [], []⟩ (ol_ explicit_state_enter_L) Tryz.f96 205 (.st (.pair (.sl Tb) (.pair Th (.pair Th Th)))) [(0, 202)] [.bool] [] s x = explicit_state_enter_T s x.1 := by kernel_rfl
theorem explicit_state_enter_ok : HBoxOk Tryz.prog 96 explicit_state_enter_fun := evFunH_ok mixed ctx0 (cons_calls (fb := .hbox explicit_state_next_fun) explicit_state_next_ok (fun h => by rfl) (cons_calls (fb := .hbox explicit_state_fits_fun) explicit_state_fits_ok (fun h => by rfl) (cons_calls (fb := .hbox explicit_state_push_fun) explicit_state_push_ok (fun h => by rfl) (no_calls)))) Tryz.func96 (by kernel_rfl) _ (fun s x => congrArg Tr.run (explicit_state_enter_ev s x)) (by kernel_rfl)
noncomputable def explicit_state_pop_T (s0 : (List (Int × Int × Bool)) × Int × Int × Int) : Tr (((List (Int × Int × Bool)) × Int × Int × Int) × Unit) :=
  .bnd (cut s0.1 0 (IntKind.i64.wrap ((s0.1.length : Int) - 1))) fun r_1 =>
  .pure ((r_1, s0.2.1, s0.2.2.1, s0.2.2.2), ())
noncomputable def explicit_state_pop_F (s0 : (List (Int × Int × Bool)) × Int × Int × Int) : Option (((List (Int × Int × Bool)) × Int × Int × Int) × Unit) := (explicit_state_pop_T s0).run
def explicit_state_pop_L : List (Nat × LoopAnn) := []
noncomputable def explicit_state_pop_C : List (Nat × Callee) := []
noncomputable def explicit_state_pop_fun : HFun := ⟨205, (.st (.pair (.sl Tb) (.pair Th (.pair Th Th)))), [(0, 202)], [], [], fun s _ => explicit_state_pop_F s⟩
theorem explicit_state_pop_ev (s : (List (Int × Int × Bool)) × Int × Int × Int) (x : Tys.I []) : evFunH G0 (of_ explicit_state_pop_C) ⟨[13], [], [], [], [], []⟩ (ol_ explicit_state_pop_L) Tryz.f122 205 (.st (.pair (.sl Tb) (.pair Th (.pair Th Th)))) [(0, 202)] [] [] s x = explicit_state_pop_T s := by kernel_rfl
theorem explicit_state_pop_ok : HBoxOk Tryz.prog 122 explicit_state_pop_fun := evFunH_ok mixed ctx0 (no_calls) Tryz.func122 (by kernel_rfl) _ (fun s x => congrArg Tr.run (explicit_state_pop_ev s x)) (by kernel_rfl)
noncomputable def explicit_state_leave_L4 (s0 : (List (Int × Int × Bool)) × Int × Int × Int) : Tr (Lap ((List (Int × Int × Bool)) × Int × Int × Int) ((List (Int × Int × Bool)) × Int × Int × Int)) :=
  .bnd (explicit_state_top_F (s0.1, s0.2.1, s0.2.2.1, s0.2.2.2)) fun c_6 =>
  .br (!c_6.2.2.2) (
    .bnd (explicit_state_pop_F (c_6.1.1, c_6.1.2.1, c_6.1.2.2.1, c_6.1.2.2.2)) fun c_7 =>
    .pure (.next (c_7.1.1, c_7.1.2.1, c_7.1.2.2.1, c_7.1.2.2.2))) (
    .pure (.done (c_6.1.1, c_6.1.2.1, c_6.1.2.2.1, c_6.1.2.2.2)))
noncomputable def explicit_state_leave_T (s0 : (List (Int × Int × Bool)) × Int × Int × Int) : Tr (((List (Int × Int × Bool)) × Int × Int × Int) × Unit) :=
  .bnd (idx ([((), s0.2.1, s0.2.2.1, s0.2.2.2)]) 0) fun x_1 =>
  .br (decide (x_1.2.1 > 0)) (
    .bnd (idx ([((), s0.2.1, s0.2.2.1, s0.2.2.2)]) 0) fun x_2 =>
    .bnd (idx ([((), s0.2.1, s0.2.2.1, s0.2.2.2)]) 0) fun x_3 =>
    .pure ((s0.1, IntKind.i64.wrap (x_2.2.1 - 1), x_3.2.2.1, x_3.2.2.2), ())) (
    .bnd (idx ([((), s0.2.1, s0.2.2.1, s0.2.2.2)]) 0) fun x_4 =>
    .br (x_4.2.2.2 == 0) (
      .pure ((s0.1, s0.2.1, s0.2.2.1, s0.2.2.2), ())) (
      .bnd (idx ([((), s0.2.1, s0.2.2.1, s0.2.2.2)]) 0) fun x_5 =>
      .bnd (loopW (fun s => (explicit_state_leave_L4 s).run) (s0.1, x_5.2.1, (0 : Int), x_5.2.2.2)) fun l_8 =>
      .bnd (explicit_state_pop_F (l_8.1, l_8.2.1, l_8.2.2.1, l_8.2.2.2)) fun c_9 =>
      .bnd (idx ([((), c_9.1.2.1, c_9.1.2.2.1, c_9.1.2.2.2)]) 0) fun x_10 =>
      .bnd (idx ([((), c_9.1.2.1, c_9.1.2.2.1, c_9.1.2.2.2)]) 0) fun x_11 =>
      .pure ((c_9.1.1, x_11.2.1, x_11.2.2.1, IntKind.i64.wrap (x_10.2.2.2 - 1)), ())))
noncomputable def explicit_state_leave_F (s0 : (List (Int × Int × Bool)) × Int × Int × Int) : Option (((List (Int × Int × Bool)) × Int × Int × Int) × Unit) := (explicit_state_leave_T s0).run
def explicit_state_leave_L : List (Nat × LoopAnn) := [(4, { head := [.slboxh 0 205 (.st (.pair (.sl Tb) (.pair Th (.pair Th Th)))) [(0, 202)]], xid := 0, out := [.slboxh 0 205 (.st (.pair (.sl Tb) (.pair Th (.pair Th Th)))) [(0, 202)]], hasRet := false, res := [] })]
noncomputable def explicit_state_leave_C : List (Nat × Callee) := [(94, .hbox explicit_state_top_fun), (122, .hbox explicit_state_pop_fun)]
noncomputable def explicit_state_leave_fun : HFun := ⟨205, (.st (.pair (.sl Tb) (.pair Th (.pair Th Th)))), [(0, 202)], [], [], fun s _ => explicit_state_leave_F s⟩
theorem explicit_state_leave_ev (s : (List (Int × Int × Bool)) × Int × Int × Int) (x : Tys.I []) : evFunH G0 (of_ explicit_state_leave_C) ⟨[], [], [94, 122], [], [], []⟩ (ol_ explicit_state_leave_L) Tryz.f97 205 (.st (.pair (.sl Tb) (.pair Th (.pair Th Th)))) [(0, 202)] [] [] s x = explicit_state_leave_T s := by kernel_rfl
theorem explicit_state_leave_ok : HBoxOk Tryz.prog 97 explicit_state_leave_fun := evFunH_ok mixed ctx0 (cons_calls (fb := .hbox explicit_state_top_fun) explicit_state_top_ok (fun h => by rfl) (cons_calls (fb := .hbox explicit_state_pop_fun) explicit_state_pop_ok (fun h => by rfl) (no_calls))) Tryz.func97 (by kernel_rfl) _ (fun s x => congrArg Tr.run (explicit_state_leave_ev s x)) (by kernel_rfl)
noncomputable def explicit_state_end_T (s0 : (List (Int × Int × Bool)) × Int × Int × Int) : Tr (((List (Int × Int × Bool)) × Int × Int × Int) × Unit) :=
  .bnd (idx ([((), s0.2.1, s0.2.2.1, s0.2.2.2)]) 0) fun x_1 =>
  .br (decide (x_1.2.1 > 0)) (
    .pure ((s0.1, s0.2.1, s0.2.2.1, s0.2.2.2), ())) (
    .bnd (idx ([((), s0.2.1, s0.2.2.1, s0.2.2.2)]) 0) fun x_2 =>
    .br (decide (x_2.2.2.1 > 0)) (
      .bnd (idx ([((), s0.2.1, s0.2.2.1, s0.2.2.2)]) 0) fun x_3 =>
      .bnd (idx ([((), s0.2.1, s0.2.2.1, s0.2.2.2)]) 0) fun x_4 =>
      .pure ((s0.1, x_4.2.1, IntKind.i64.wrap (x_3.2.2.1 - 1), x_4.2.2.2), ())) (
      .bnd (explicit_state_top_F (s0.1, s0.2.1, s0.2.2.1, s0.2.2.2)) fun c_5 =>
      .br (!c_5.2.2.2) (
        .br (decide ((c_5.1.1.length : Int) > 1)) (
          .bnd (explicit_state_pop_F (c_5.1.1, c_5.1.2.1, c_5.1.2.2.1, c_5.1.2.2.2)) fun c_6 =>
          .pure ((c_6.1.1, c_6.1.2.1, c_6.1.2.2.1, c_6.1.2.2.2), ())) (
          .pure ((c_5.1.1, c_5.1.2.1, c_5.1.2.2.1, c_5.1.2.2.2), ()))) (
        .pure ((c_5.1.1, c_5.1.2.1, c_5.1.2.2.1, c_5.1.2.2.2), ()))))
noncomputable def explicit_state_end_F (s0 : (List (Int × Int × Bool)) × Int × Int × Int) : Option (((List (Int × Int × Bool)) × Int × Int × Int) × Unit) := (explicit_state_end_T s0).run
def explicit_state_end_L : List (Nat × LoopAnn) := []
noncomputable def explicit_state_end_C : List (Nat × Callee) := [(94, .hbox explicit_state_top_fun), (122, .hbox explicit_state_pop_fun)]
noncomputable def explicit_state_end_fun : HFun := ⟨205, (.st (.pair (.sl Tb) (.pair Th (.pair Th Th)))), [(0, 202)], [], [], fun s _ => explicit_state_end_F s⟩
theorem explicit_state_end_ev (s : (List (Int × Int × Bool)) × Int × Int × Int) (x : Tys.I []) : evFunH G0 (of_ explicit_state_end_C) ⟨[], [], [94, 122], [], [], []⟩ (ol_ explicit_state_end_L) Tryz.f98 205 (.st (.pair (.sl Tb) (.pair Th (.pair Th Th)))) [(0, 202)] [] [] s x = explicit_state_end_T s := by kernel_rfl
theorem explicit_state_end_ok : HBoxOk Tryz.prog 98 explicit_state_end_fun := evFunH_ok mixed ctx0 (cons_calls (fb := .hbox explicit_state_top_fun) explicit_state_top_ok (fun h => by rfl) (cons_calls (fb := .hbox explicit_state_pop_fun) explicit_state_pop_ok (fun h => by rfl) (no_calls))) Tryz.func98 (by kernel_rfl) _ (fun s x => congrArg Tr.run (explicit_state_end_ev s x)) (by kernel_rfl)
noncomputable def explicit_Resolve_L6 (level1 : Int) (levels6 : List Int) (classes7 : List Int) (s8 : (List (Int × Int × Bool)) × Int × Int × Int) (right9 : List Bool) (t25 : List Int) (t26 : Int) (t27 : Int) : Tr (Lap (Int × List Int × List Int × ((List (Int × Int × Bool)) × Int × Int × Int) × List Bool × List Int × Int × Int) (List Int × List Int)) :=
  .br (decide (t27 < t26)) (
    .bnd (idx t25 t27) fun x_4 =>
    .bnd (idx levels6 t27) fun x_5 =>
    .bnd (idx classes7 t27) fun x_6 =>
    .bnd (bidic_Embedding_F x_4) fun c_7 =>
    .br c_7 (
      .bnd (explicit_state_embed_F (s8.1, s8.2.1, s8.2.2.1, s8.2.2.2) x_4) fun c_8 =>
      .pure (.next (level1, levels6.set (Int.toNat t27) (-1), classes7.set (Int.toNat t27) x_4, (c_8.1.1, c_8.1.2.1, c_8.1.2.2.1, c_8.1.2.2.2), right9, t25, t26, IntKind.i64.wrap (t27 + 1)))) (
      .bnd (bidic_Isolate_F x_4) fun c_9 =>
      .br c_9 (
        .bnd (explicit_state_top_F (s8.1, s8.2.1, s8.2.2.1, s8.2.2.2)) fun c_10 =>
        .bnd (explicit_state_under_F (c_10.1.1, c_10.1.2.1, c_10.1.2.2.1, c_10.1.2.2.2) x_4) fun c_11 =>
        .bnd (idx (levels6.set (Int.toNat t27) (-1)) t27) fun x_12 =>
        .bnd (idx (classes7.set (Int.toNat t27) x_4) t27) fun x_13 =>
        .br (x_4 == 20) (
          .bnd (explicit_state_enter_F (c_11.1.1, c_11.1.2.1, c_11.1.2.2.1, c_11.1.2.2.2) true) fun c_14 =>
          .pure (.next (level1, (levels6.set (Int.toNat t27) (-1)).set (Int.toNat t27) c_10.2.1, (classes7.set (Int.toNat t27) x_4).set (Int.toNat t27) c_11.2, (c_14.1.1, c_14.1.2.1, c_14.1.2.2.1, c_14.1.2.2.2), right9, t25, t26, IntKind.i64.wrap (t27 + 1)))) (
          .br (x_4 == 21) (
            .bnd (idx right9 t27) fun x_15 =>
            .bnd (explicit_state_enter_F (c_11.1.1, c_11.1.2.1, c_11.1.2.2.1, c_11.1.2.2.2) x_15) fun c_16 =>
            .pure (.next (level1, (levels6.set (Int.toNat t27) (-1)).set (Int.toNat t27) c_10.2.1, (classes7.set (Int.toNat t27) x_4).set (Int.toNat t27) c_11.2, (c_16.1.1, c_16.1.2.1, c_16.1.2.2.1, c_16.1.2.2.2), right9, t25, t26, IntKind.i64.wrap (t27 + 1)))) (
            .bnd (explicit_state_enter_F (c_11.1.1, c_11.1.2.1, c_11.1.2.2.1, c_11.1.2.2.2) false) fun c_17 =>
            .pure (.next (level1, (levels6.set (Int.toNat t27) (-1)).set (Int.toNat t27) c_10.2.1, (classes7.set (Int.toNat t27) x_4).set (Int.toNat t27) c_11.2, (c_17.1.1, c_17.1.2.1, c_17.1.2.2.1, c_17.1.2.2.2), right9, t25, t26, IntKind.i64.wrap (t27 + 1)))))) (
        .br (x_4 == 22) (
          .bnd (explicit_state_leave_F (s8.1, s8.2.1, s8.2.2.1, s8.2.2.2)) fun c_18 =>
          .bnd (explicit_state_top_F (c_18.1.1, c_18.1.2.1, c_18.1.2.2.1, c_18.1.2.2.2)) fun c_19 =>
          .bnd (explicit_state_under_F (c_19.1.1, c_19.1.2.1, c_19.1.2.2.1, c_19.1.2.2.2) x_4) fun c_20 =>
          .bnd (idx (levels6.set (Int.toNat t27) (-1)) t27) fun x_21 =>
          .bnd (idx (classes7.set (Int.toNat t27) x_4) t27) fun x_22 =>
          .pure (.next (level1, (levels6.set (Int.toNat t27) (-1)).set (Int.toNat t27) c_19.2.1, (classes7.set (Int.toNat t27) x_4).set (Int.toNat t27) c_20.2, (c_20.1.1, c_20.1.2.1, c_20.1.2.2.1, c_20.1.2.2.2), right9, t25, t26, IntKind.i64.wrap (t27 + 1)))) (
          .br (x_4 == 18) (
            .bnd (explicit_state_end_F (s8.1, s8.2.1, s8.2.2.1, s8.2.2.2)) fun c_23 =>
            .pure (.next (level1, levels6.set (Int.toNat t27) (-1), classes7.set (Int.toNat t27) x_4, (c_23.1.1, c_23.1.2.1, c_23.1.2.2.1, c_23.1.2.2.2), right9, t25, t26, IntKind.i64.wrap (t27 + 1)))) (
            .br (x_4 == 10) (
              .bnd (idx (levels6.set (Int.toNat t27) (-1)) t27) fun x_24 =>
              .pure (.next (level1, (levels6.set (Int.toNat t27) (-1)).set (Int.toNat t27) level1, classes7.set (Int.toNat t27) x_4, (s8.1, s8.2.1, s8.2.2.1, s8.2.2.2), right9, t25, t26, IntKind.i64.wrap (t27 + 1)))) (
              .br (x_4 != 9) (
                .bnd (explicit_state_top_F (s8.1, s8.2.1, s8.2.2.1, s8.2.2.2)) fun c_25 =>
                .bnd (explicit_state_under_F (c_25.1.1, c_25.1.2.1, c_25.1.2.2.1, c_25.1.2.2.2) x_4) fun c_26 =>
                .bnd (idx (levels6.set (Int.toNat t27) (-1)) t27) fun x_27 =>
                .bnd (idx (classes7.set (Int.toNat t27) x_4) t27) fun x_28 =>
                .pure (.next (level1, (levels6.set (Int.toNat t27) (-1)).set (Int.toNat t27) c_25.2.1, (classes7.set (Int.toNat t27) x_4).set (Int.toNat t27) c_26.2, (c_26.1.1, c_26.1.2.1, c_26.1.2.2.1, c_26.1.2.2.2), right9, t25, t26, IntKind.i64.wrap (t27 + 1)))) (
                .pure (.next (level1, levels6.set (Int.toNat t27) (-1), classes7.set (Int.toNat t27) x_4, (s8.1, s8.2.1, s8.2.2.1, s8.2.2.2), right9, t25, t26, IntKind.i64.wrap (t27 + 1)))))))))) (
    .pure (.done (levels6, classes7)))
noncomputable def explicit_Resolve_T (cs0 : List Int) (level1 : Int) : Tr (List Int × List Int) :=
  .bnd (mk 17592186044416 0 (cs0.length : Int)) fun r_1 =>
  .bnd (mk 140737488355328 0 (cs0.length : Int)) fun r_2 =>
  .bnd (explicit_rightward_F cs0) fun c_3 =>
  .bnd (loopW (fun s => (explicit_Resolve_L6 s.1 s.2.1 s.2.2.1 s.2.2.2.1 s.2.2.2.2.1 s.2.2.2.2.2.1 s.2.2.2.2.2.2.1 s.2.2.2.2.2.2.2).run) (level1, r_1, r_2, ([(level1, (13 : Int), false)], 0, 0, 0), c_3, cs0, (cs0.length : Int), 0)) fun l_29 =>
  .pure (l_29.1, l_29.2)
noncomputable def explicit_Resolve_F (cs0 : List Int) (level1 : Int) : Option (List Int × List Int) := (explicit_Resolve_T cs0 level1).run
def explicit_Resolve_L : List (Nat × LoopAnn) := [(6, { head := [.sv 1 false Th, .srow 6 1000006 3 true Th, .srow 7 1000007 156 true Ti, .sboxh 8 1000008 205 (.st (.pair (.sl Tb) (.pair Th (.pair Th Th)))) [(0, 202)] [], .srow 9 1000009 4 true .bool, .sv 25 false Tf, .sv 26 true Th, .sv 27 true Th], xid := 0, out := [.srow 6 1000006 3 true Th, .srow 7 1000007 156 true Ti], hasRet := false, res := [] })]
noncomputable def explicit_Resolve_C : List (Nat × Callee) := [(91, .plain explicit_rightward_fun), (92, .plain bidic_Embedding_fun), (93, .hbox explicit_state_embed_fun), (87, .plain bidic_Isolate_fun), (94, .hbox explicit_state_top_fun), (95, .hbox explicit_state_under_fun), (96, .hbox explicit_state_enter_fun), (97, .hbox explicit_state_leave_fun), (98, .hbox explicit_state_end_fun)]
noncomputable def explicit_Resolve_fun : Fun := ⟨[.sl Ti, Th], [.row 3 Th, .row 156 Ti], fun x => explicit_Resolve_F x.1 x.2.1⟩
theorem explicit_Resolve_ev (x : Tys.I [.sl Ti, Th]) : evFun G0 (of_ explicit_Resolve_C) ⟨[], [], [93, 94, 95, 96, 97, 98], [], [], [(21, [(0, 202)])]⟩ (ol_ explicit_Resolve_L) Tryz.f64 [.sl Ti, Th] [.row 3 Th, .row 156 Ti] x = explicit_Resolve_T x.1 x.2.1 := by kernel_rfl
theorem explicit_Resolve_ok : FunOk Tryz.prog 64 explicit_Resolve_fun := evFun_ok mixed ctx0 (pc explicit_rightward_ok (pc bidic_Embedding_ok (cons_calls (fb := .hbox explicit_state_embed_fun) explicit_state_embed_ok (fun h => by rfl) (pc bidic_Isolate_ok (cons_calls (fb := .hbox explicit_state_top_fun) explicit_state_top_ok (fun h => by rfl) (cons_calls (fb := .hbox explicit_state_under_fun) explicit_state_under_ok (fun h => by rfl) (cons_calls (fb := .hbox explicit_state_enter_fun) explicit_state_enter_ok (fun h => by rfl) (cons_calls (fb := .hbox explicit_state_leave_fun) explicit_state_leave_ok (fun h => by rfl) (cons_calls (fb := .hbox explicit_state_end_fun) explicit_state_end_ok (fun h => by rfl) (no_calls)))))))))) Tryz.func64 (by kernel_rfl) _ (fun x => congrArg Tr.run (explicit_Resolve_ev x)) (by kernel_rfl) (by kernel_rfl)
noncomputable def slices_Clone___int_int__T (s0 : List Int) : Tr (List Int) :=
  .bnd (app 17592186044416 ([]) s0) fun r_1 =>
  .pure r_1
noncomputable def slices_Clone___int_int__F (s0 : List Int) : Option (List Int) := (slices_Clone___int_int__T s0).run
def slices_Clone___int_int__L : List (Nat × LoopAnn) := []
noncomputable def slices_Clone___int_int__C : List (Nat × Callee) := []
noncomputable def slices_Clone___int_int__fun : Fun := ⟨[.sl Th], [.row 3 Th], fun x => slices_Clone___int_int__F x.1⟩
noncomputable def slices_Clone___int_int__T0 : Tr (List Int) :=
  .pure ([])
theorem slices_Clone___int_int__ev0 : evFunS G0 (fun f => olook f slices_Clone___int_int__C) ⟨[], [], [], [], [], []⟩ (fun i => olook i slices_Clone___int_int__L) Tryz.f78 [.nil] [.row 3 (.int .i64)] = slices_Clone___int_int__T0 := by kernel_rfl
theorem slices_Clone___int_int__ev1 (s0 : List Int) : evFunS G0 (fun f => olook f slices_Clone___int_int__C) ⟨[], [], [], [], [], []⟩ (fun i => olook i slices_Clone___int_int__L) Tryz.f78 [.nn false (.int .i64) s0] [.row 3 (.int .i64)] = slices_Clone___int_int__T s0 := by kernel_rfl
theorem slices_Clone___int_int__nil (r : List Int) (h : slices_Clone___int_int__F [] = some r) : slices_Clone___int_int__T0.run = some r := by
  simp [slices_Clone___int_int__F, slices_Clone___int_int__T, slices_Clone___int_int__T0, app, mk, Tr.run] at h ⊢
  exact h
theorem slices_Clone___int_int__ok : FunOk Tryz.prog 78 slices_Clone___int_int__fun := evFunN_ok (A := ⟨[], [], [], [], [], []⟩) (L := fun i => olook i slices_Clone___int_int__L) mixed ctx0 (no_calls) Tryz.func78 (by kernel_rfl) _ (fun r h => (congrArg Tr.run slices_Clone___int_int__ev0).trans (slices_Clone___int_int__nil r h)) (fun s0 r h => (congrArg Tr.run (slices_Clone___int_int__ev1 s0)).trans h) (by kernel_rfl)
noncomputable def runs_Of_L4 (levels0 : List Int) (all3 : List (List Int)) (run4 : List Int) (t7 : List Int) (t8 : Int) (t9 : Int) : Tr (Lap (List Int × List (List Int) × List Int × List Int × Int × Int) (List (List Int) × List Int)) :=
  .br (decide (t9 < t8)) (
    .bnd (idx t7 t9) fun x_1 =>
    .br (x_1 == (-1)) (
      .pure (.next (levels0, all3, run4, t7, t8, IntKind.i64.wrap (t9 + 1)))) (
      .br (decide ((run4.length : Int) > 0)) (
        .bnd (idx run4 0) fun x_2 =>
        .bnd (idx levels0 x_2) fun x_3 =>
        .br (x_3 != x_1) (
          .bnd (app 5864062014805 all3 ([run4])) fun r_4 =>
          .bnd (app 17592186044416 [] ([t9])) fun r_5 =>
          .pure (.next (levels0, r_4, r_5, t7, t8, IntKind.i64.wrap (t9 + 1)))) (
          .bnd (app 17592186044416 run4 ([t9])) fun r_6 =>
          .pure (.next (levels0, all3, r_6, t7, t8, IntKind.i64.wrap (t9 + 1))))) (
        .bnd (app 17592186044416 run4 ([t9])) fun r_7 =>
        .pure (.next (levels0, all3, r_7, t7, t8, IntKind.i64.wrap (t9 + 1)))))) (
    .pure (.done (all3, run4)))
noncomputable def runs_Of_T (levels0 : List Int) : Tr (List (List Int)) :=
  .bnd (loopW (fun s => (runs_Of_L4 s.1 s.2.1 s.2.2.1 s.2.2.2.1 s.2.2.2.2.1 s.2.2.2.2.2).run) (levels0, [], [], levels0, (levels0.length : Int), 0)) fun l_8 =>
  .br (decide ((l_8.2.length : Int) > 0)) (
    .bnd (app 5864062014805 l_8.1 ([l_8.2])) fun r_9 =>
    .pure r_9) (
    .pure l_8.1)
noncomputable def runs_Of_F (levels0 : List Int) : Option (List (List Int)) := (runs_Of_T levels0).run
def runs_Of_L : List (Nat × LoopAnn) := [(4, { head := [.sv 0 false Te, .srow 3 1000003 34 true Te, .srow 4 1000004 3 true Th, .sv 7 false Te, .sv 8 true Th, .sv 9 true Th], xid := 0, out := [.srow 3 1000003 34 true Te, .srow 4 1000004 3 true Th], hasRet := false, res := [] })]
noncomputable def runs_Of_C : List (Nat × Callee) := []
noncomputable def runs_Of_fun : Fun := ⟨[.sl Th], [.row 34 Te], fun x => runs_Of_F x.1⟩
theorem runs_Of_ev (x : Tys.I [.sl Th]) : evFun G0 (of_ runs_Of_C) A0 (ol_ runs_Of_L) Tryz.f99 [.sl Th] [.row 34 Te] x = runs_Of_T x.1 := by kernel_rfl
theorem runs_Of_ok : FunOk Tryz.prog 99 runs_Of_fun := evFun_ok mixed ctx0 (no_calls) Tryz.func99 (by kernel_rfl) _ (fun x => congrArg Tr.run (runs_Of_ev x)) (by kernel_rfl) (by kernel_rfl)
noncomputable def bits_Mul32_T (x0 : Int) (y1 : Int) : Tr (Int × Int) :=
  .pure (IntKind.u32.wrap (shiftBy .shr .u64 (IntKind.u64.wrap ((IntKind.u64.wrap x0) * (IntKind.u64.wrap y1))) 32), IntKind.u32.wrap (IntKind.u64.wrap ((IntKind.u64.wrap x0) * (IntKind.u64.wrap y1))))
noncomputable def bits_Mul32_F (x0 : Int) (y1 : Int) : Option (Int × Int) := (bits_Mul32_T x0 y1).run
def bits_Mul32_L : List (Nat × LoopAnn) := []
noncomputable def bits_Mul32_C : List (Nat × Callee) := []
noncomputable def bits_Mul32_fun : Fun := ⟨[.int .u32, .int .u32], [.v (.int .u32), .v (.int .u32)], fun x => bits_Mul32_F x.1 x.2.1⟩
theorem bits_Mul32_ev (x : Tys.I [.int .u32, .int .u32]) : evFun G0 (of_ bits_Mul32_C) A0 (ol_ bits_Mul32_L) Tryz.f143 [.int .u32, .int .u32] [.v (.int .u32), .v (.int .u32)] x = bits_Mul32_T x.1 x.2.1 := by kernel_rfl
theorem bits_Mul32_ok : FunOk Tryz.prog 143 bits_Mul32_fun := evFun_ok mixed ctx0 (no_calls) Tryz.func143 (by kernel_rfl) _ (fun x => congrArg Tr.run (bits_Mul32_ev x)) (by kernel_rfl) (by kernel_rfl)
noncomputable def bits_Mul64_T (x0 : Int) (y1 : Int) : Tr (Int × Int) :=
  .pure (IntKind.u64.wrap ((IntKind.u64.wrap ((IntKind.u64.wrap ((shiftBy .shr .u64 x0 32) * (shiftBy .shr .u64 y1 32))) + (shiftBy .shr .u64 (IntKind.u64.wrap ((IntKind.u64.wrap ((shiftBy .shr .u64 x0 32) * (ibits .and .u64 y1 4294967295))) + (shiftBy .shr .u64 (IntKind.u64.wrap ((ibits .and .u64 x0 4294967295) * (ibits .and .u64 y1 4294967295))) 32))) 32))) + (shiftBy .shr .u64 (IntKind.u64.wrap ((ibits .and .u64 (IntKind.u64.wrap ((IntKind.u64.wrap ((shiftBy .shr .u64 x0 32) * (ibits .and .u64 y1 4294967295))) + (shiftBy .shr .u64 (IntKind.u64.wrap ((ibits .and .u64 x0 4294967295) * (ibits .and .u64 y1 4294967295))) 32))) 4294967295) + (IntKind.u64.wrap ((ibits .and .u64 x0 4294967295) * (shiftBy .shr .u64 y1 32))))) 32)), IntKind.u64.wrap (x0 * y1))
noncomputable def bits_Mul64_F (x0 : Int) (y1 : Int) : Option (Int × Int) := (bits_Mul64_T x0 y1).run
def bits_Mul64_L : List (Nat × LoopAnn) := []
noncomputable def bits_Mul64_C : List (Nat × Callee) := []
noncomputable def bits_Mul64_fun : Fun := ⟨[.int .u64, .int .u64], [.v (.int .u64), .v (.int .u64)], fun x => bits_Mul64_F x.1 x.2.1⟩
theorem bits_Mul64_ev (x : Tys.I [.int .u64, .int .u64]) : evFun G0 (of_ bits_Mul64_C) A0 (ol_ bits_Mul64_L) Tryz.f144 [.int .u64, .int .u64] [.v (.int .u64), .v (.int .u64)] x = bits_Mul64_T x.1 x.2.1 := by kernel_rfl
theorem bits_Mul64_ok : FunOk Tryz.prog 144 bits_Mul64_fun := evFun_ok mixed ctx0 (no_calls) Tryz.func144 (by kernel_rfl) _ (fun x => congrArg Tr.run (bits_Mul64_ev x)) (by kernel_rfl) (by kernel_rfl)
noncomputable def bits_Mul_T (x0 : Int) (y1 : Int) : Tr (Int × Int) :=
  .bnd (bits_Mul64_F x0 y1) fun c_1 =>
  .pure (c_1.1, c_1.2)
noncomputable def bits_Mul_F (x0 : Int) (y1 : Int) : Option (Int × Int) := (bits_Mul_T x0 y1).run
def bits_Mul_L : List (Nat × LoopAnn) := []
noncomputable def bits_Mul_C : List (Nat × Callee) := [(144, .plain bits_Mul64_fun)]
noncomputable def bits_Mul_fun : Fun := ⟨[.int .u64, .int .u64], [.v (.int .u64), .v (.int .u64)], fun x => bits_Mul_F x.1 x.2.1⟩
theorem bits_Mul_ev (x : Tys.I [.int .u64, .int .u64]) : evFun G0 (of_ bits_Mul_C) A0 (ol_ bits_Mul_L) Tryz.f117 [.int .u64, .int .u64] [.v (.int .u64), .v (.int .u64)] x = bits_Mul_T x.1 x.2.1 := by kernel_rfl
theorem bits_Mul_ok : FunOk Tryz.prog 117 bits_Mul_fun := evFun_ok mixed ctx0 (pc bits_Mul64_ok (no_calls)) Tryz.func117 (by kernel_rfl) _ (fun x => congrArg Tr.run (bits_Mul_ev x)) (by kernel_rfl) (by kernel_rfl)
noncomputable def slices_Repeat___int_int__L8 (newslice7 : List Int) (n8 : Int) : Tr (Lap (List Int × Int) (List Int)) :=
  .br (decide (n8 < (newslice7.length : Int))) (
    .bnd (cut newslice7 n8 (newslice7.length : Int)) fun r_3 =>
    .bnd (cut newslice7 0 n8) fun r_4 =>
    .pure (.next (splice' newslice7 ((n8).toNat) r_3.length (r_4.take ((newslice7.drop ((n8).toNat)).take r_3.length).length ++ ((newslice7.drop ((n8).toNat)).take r_3.length).drop r_4.length), IntKind.i64.wrap (n8 + ((min r_4.length ((newslice7.drop ((n8).toNat)).take r_3.length).length : Nat) : Int))))) (
    .pure (.done newslice7))
noncomputable def slices_Repeat___int_int__T (x0 : List Int) (count1 : Int) : Tr (List Int) :=
  .br (decide (count1 < 0)) (
    .fail) (
    .bnd (bits_Mul_F (IntKind.u64.wrap (x0.length : Int)) (IntKind.u64.wrap count1)) fun c_1 =>
    .br (decide (c_1.1 > 0)) (
      .fail) (
      .br (decide (c_1.2 > 9223372036854775807)) (
        .fail) (
        .bnd (mk 17592186044416 0 (IntKind.i64.wrap c_1.2)) fun r_2 =>
        .bnd (loopW (fun s => (slices_Repeat___int_int__L8 s.1 s.2).run) (x0.take r_2.length ++ r_2.drop x0.length, ((min x0.length r_2.length : Nat) : Int))) fun l_5 =>
        .pure l_5)))
noncomputable def slices_Repeat___int_int__F (x0 : List Int) (count1 : Int) : Option (List Int) := (slices_Repeat___int_int__T x0 count1).run
def slices_Repeat___int_int__L : List (Nat × LoopAnn) := [(8, { head := [.srow 7 1000007 3 true Th, .sv 8 true Th], xid := 0, out := [.srow 7 1000007 3 true Th], hasRet := false, res := [] })]
noncomputable def slices_Repeat___int_int__C : List (Nat × Callee) := [(117, .plain bits_Mul_fun)]
noncomputable def slices_Repeat___int_int__fun : Fun := ⟨[.sl Th, Th], [.row 3 Th], fun x => slices_Repeat___int_int__F x.1 x.2.1⟩
theorem slices_Repeat___int_int__ev (x : Tys.I [.sl Th, Th]) : evFun G0 (of_ slices_Repeat___int_int__C) A0 (ol_ slices_Repeat___int_int__L) Tryz.f83 [.sl Th, Th] [.row 3 Th] x = slices_Repeat___int_int__T x.1 x.2.1 := by kernel_rfl
theorem slices_Repeat___int_int__ok : FunOk Tryz.prog 83 slices_Repeat___int_int__fun := evFun_ok mixed ctx0 (pc bits_Mul_ok (no_calls)) Tryz.func83 (by kernel_rfl) _ (fun x => congrArg Tr.run (slices_Repeat___int_int__ev x)) (by kernel_rfl) (by kernel_rfl)
noncomputable def isolate_Match_L4 (match3 : List Int) (open4 : List Int) (t11 : List Int) (t12 : Int) (t13 : Int) : Tr (Lap (List Int × List Int × List Int × Int × Int) (List Int)) :=
  .br (decide (t13 < t12)) (
    .bnd (idx t11 t13) fun x_2 =>
    .bnd (idx match3 t13) fun x_3 =>
    .bnd (bidic_Isolate_F x_2) fun c_4 =>
    .br c_4 (
      .bnd (app 17592186044416 open4 ([t13])) fun r_5 =>
      .br (x_2 == 22) (
        .br (decide ((r_5.length : Int) > 0)) (
          .bnd (idx r_5 (IntKind.i64.wrap ((r_5.length : Int) - 1))) fun x_6 =>
          .bnd (idx r_5 (IntKind.i64.wrap ((r_5.length : Int) - 1))) fun x_7 =>
          .bnd (idx (match3.set (Int.toNat t13) (-1)) t13) fun x_8 =>
          .bnd (idx ((match3.set (Int.toNat t13) (-1)).set (Int.toNat t13) x_7) x_6) fun x_9 =>
          .bnd (cut r_5 0 (IntKind.i64.wrap ((r_5.length : Int) - 1))) fun r_10 =>
          .pure (.next (((match3.set (Int.toNat t13) (-1)).set (Int.toNat t13) x_7).set (Int.toNat x_6) t13, r_10, t11, t12, IntKind.i64.wrap (t13 + 1)))) (
          .pure (.next (match3.set (Int.toNat t13) (-1), r_5, t11, t12, IntKind.i64.wrap (t13 + 1))))) (
        .pure (.next (match3.set (Int.toNat t13) (-1), r_5, t11, t12, IntKind.i64.wrap (t13 + 1))))) (
      .br (x_2 == 22) (
        .br (decide ((open4.length : Int) > 0)) (
          .bnd (idx open4 (IntKind.i64.wrap ((open4.length : Int) - 1))) fun x_11 =>
          .bnd (idx open4 (IntKind.i64.wrap ((open4.length : Int) - 1))) fun x_12 =>
          .bnd (idx (match3.set (Int.toNat t13) (-1)) t13) fun x_13 =>
          .bnd (idx ((match3.set (Int.toNat t13) (-1)).set (Int.toNat t13) x_12) x_11) fun x_14 =>
          .bnd (cut open4 0 (IntKind.i64.wrap ((open4.length : Int) - 1))) fun r_15 =>
          .pure (.next (((match3.set (Int.toNat t13) (-1)).set (Int.toNat t13) x_12).set (Int.toNat x_11) t13, r_15, t11, t12, IntKind.i64.wrap (t13 + 1)))) (
          .pure (.next (match3.set (Int.toNat t13) (-1), open4, t11, t12, IntKind.i64.wrap (t13 + 1))))) (
        .pure (.next (match3.set (Int.toNat t13) (-1), open4, t11, t12, IntKind.i64.wrap (t13 + 1)))))) (
    .pure (.done match3))
noncomputable def isolate_Match_T (cs0 : List Int) : Tr (List Int) :=
  .bnd (mk 17592186044416 0 (cs0.length : Int)) fun r_1 =>
  .bnd (loopW (fun s => (isolate_Match_L4 s.1 s.2.1 s.2.2.1 s.2.2.2.1 s.2.2.2.2).run) (r_1, [], cs0, (cs0.length : Int), 0)) fun l_16 =>
  .pure l_16
noncomputable def isolate_Match_F (cs0 : List Int) : Option (List Int) := (isolate_Match_T cs0).run
def isolate_Match_L : List (Nat × LoopAnn) := [(4, { head := [.srow 3 1000003 3 true Th, .srow 4 1000004 3 true Th, .sv 11 false Tf, .sv 12 true Th, .sv 13 true Th], xid := 0, out := [.srow 3 1000003 3 true Th], hasRet := false, res := [] })]
noncomputable def isolate_Match_C : List (Nat × Callee) := [(87, .plain bidic_Isolate_fun)]
noncomputable def isolate_Match_fun : Fun := ⟨[.sl Ti], [.row 3 Th], fun x => isolate_Match_F x.1⟩
theorem isolate_Match_ev (x : Tys.I [.sl Ti]) : evFun G0 (of_ isolate_Match_C) ⟨[53], [], [], [], [], []⟩ (ol_ isolate_Match_L) Tryz.f123 [.sl Ti] [.row 3 Th] x = isolate_Match_T x.1 := by kernel_rfl
theorem isolate_Match_ok : FunOk Tryz.prog 123 isolate_Match_fun := evFun_ok mixed ctx0 (pc bidic_Isolate_ok (no_calls)) Tryz.func123 (by kernel_rfl) _ (fun x => congrArg Tr.run (isolate_Match_ev x)) (by kernel_rfl) (by kernel_rfl)
noncomputable def seqs_follow_L3 (rs0 : List (List Int)) (cs1 : List Int) (begins5 : List Int) (t17 : List (List Int)) (t18 : Int) (t19 : Int) : Tr (Lap (List (List Int) × List Int × List Int × List (List Int) × Int × Int) (List (List Int) × List Int × List Int)) :=
  .br (decide (t19 < t18)) (
    .bnd (idx t17 t19) fun x_2 =>
    .bnd (idx x_2 0) fun x_3 =>
    .bnd (idx begins5 x_3) fun x_4 =>
    .pure (.next (rs0, cs1, begins5.set (Int.toNat x_3) t19, t17, t18, IntKind.i64.wrap (t19 + 1)))) (
    .pure (.done (rs0, cs1, begins5)))
noncomputable def seqs_follow_L10 (cs1 : List Int) (begins5 : List Int) (match8 : List Int) (next9 : List Int) (t36 : List (List Int)) (t37 : Int) (t38 : Int) : Tr (Lap (List Int × List Int × List Int × List Int × List (List Int) × Int × Int) (List Int)) :=
  .br (decide (t38 < t37)) (
    .bnd (idx t36 t38) fun x_8 =>
    .bnd (idx next9 t38) fun x_9 =>
    .bnd (idx x_8 (IntKind.i64.wrap ((x_8.length : Int) - 1))) fun x_10 =>
    .bnd (idx cs1 x_10) fun x_11 =>
    .bnd (bidic_Isolate_F x_11) fun c_12 =>
    .br c_12 (
      .bnd (idx match8 x_10) fun x_13 =>
      .br (x_13 != (-1)) (
        .bnd (idx match8 x_10) fun x_14 =>
        .bnd (idx begins5 x_14) fun x_15 =>
        .bnd (idx (next9.set (Int.toNat t38) (-1)) t38) fun x_16 =>
        .pure (.next (cs1, begins5, match8, (next9.set (Int.toNat t38) (-1)).set (Int.toNat t38) x_15, t36, t37, IntKind.i64.wrap (t38 + 1)))) (
        .pure (.next (cs1, begins5, match8, next9.set (Int.toNat t38) (-1), t36, t37, IntKind.i64.wrap (t38 + 1))))) (
      .pure (.next (cs1, begins5, match8, next9.set (Int.toNat t38) (-1), t36, t37, IntKind.i64.wrap (t38 + 1))))) (
    .pure (.done next9))
noncomputable def seqs_follow_T (rs0 : List (List Int)) (cs1 : List Int) : Tr (List Int) :=
  .bnd (slices_Repeat___int_int__F ([(-1)]) (cs1.length : Int)) fun c_1 =>
  .bnd (loopW (fun s => (seqs_follow_L3 s.1 s.2.1 s.2.2.1 s.2.2.2.1 s.2.2.2.2.1 s.2.2.2.2.2).run) (rs0, cs1, c_1, rs0, (rs0.length : Int), 0)) fun l_5 =>
  .bnd (isolate_Match_F l_5.2.1) fun c_6 =>
  .bnd (mk 17592186044416 0 (l_5.1.length : Int)) fun r_7 =>
  .bnd (loopW (fun s => (seqs_follow_L10 s.1 s.2.1 s.2.2.1 s.2.2.2.1 s.2.2.2.2.1 s.2.2.2.2.2.1 s.2.2.2.2.2.2).run) (l_5.2.1, l_5.2.2, c_6, r_7, l_5.1, (l_5.1.length : Int), 0)) fun l_17 =>
  .pure l_17
noncomputable def seqs_follow_F (rs0 : List (List Int)) (cs1 : List Int) : Option (List Int) := (seqs_follow_T rs0 cs1).run
def seqs_follow_L : List (Nat × LoopAnn) := [(3, { head := [.sv 0 false (.sl Te), .sv 1 false Tf, .srow 5 1000005 3 true Th, .sv 17 false (.sl Te), .sv 18 true Th, .sv 19 true Th], xid := 0, out := [.sv 0 false (.sl Te), .sv 1 false Tf, .srow 5 1000005 3 true Th], hasRet := false, res := [] }), (10, { head := [.sv 1 false Tf, .srow 5 1000005 3 true Th, .srow 8 1000008 3 true Th, .srow 9 1000009 3 true Th, .sv 36 false (.sl Te), .sv 37 true Th, .sv 38 true Th], xid := 2, out := [.srow 9 1000009 3 true Th], hasRet := false, res := [] })]
noncomputable def seqs_follow_C : List (Nat × Callee) := [(83, .plain slices_Repeat___int_int__fun), (123, .plain isolate_Match_fun), (87, .plain bidic_Isolate_fun)]
noncomputable def seqs_follow_fun : Fun := ⟨[.sl Te, .sl Ti], [.row 3 Th], fun x => seqs_follow_F x.1 x.2.1⟩
theorem seqs_follow_ev (x : Tys.I [.sl Te, .sl Ti]) : evFun G0 (of_ seqs_follow_C) A0 (ol_ seqs_follow_L) Tryz.f100 [.sl Te, .sl Ti] [.row 3 Th] x = seqs_follow_T x.1 x.2.1 := by kernel_rfl
theorem seqs_follow_ok : FunOk Tryz.prog 100 seqs_follow_fun := evFun_ok mixed ctx0 (pc slices_Repeat___int_int__ok (pc isolate_Match_ok (pc bidic_Isolate_ok (no_calls)))) Tryz.func100 (by kernel_rfl) _ (fun x => congrArg Tr.run (seqs_follow_ev x)) (by kernel_rfl) (by kernel_rfl)
noncomputable def seqs_direction_T (level0 : Int) : Tr Int :=
  .br (decide (level0 > 0)) (
    .br ((level0.tmod 2) == 1) (
      .pure 1) (
      .pure 0)) (
    .pure 0)
noncomputable def seqs_direction_F (level0 : Int) : Option Int := (seqs_direction_T level0).run
def seqs_direction_L : List (Nat × LoopAnn) := []
noncomputable def seqs_direction_C : List (Nat × Callee) := []
noncomputable def seqs_direction_fun : Fun := ⟨[Th], [.v Ti], fun x => seqs_direction_F x.1⟩
theorem seqs_direction_ev (x : Tys.I [Th]) : evFun G0 (of_ seqs_direction_C) A0 (ol_ seqs_direction_L) Tryz.f101 [Th] [.v Ti] x = seqs_direction_T x.1 := by kernel_rfl
theorem seqs_direction_ok : FunOk Tryz.prog 101 seqs_direction_fun := evFun_ok mixed ctx0 (no_calls) Tryz.func101 (by kernel_rfl) _ (fun x => congrArg Tr.run (seqs_direction_ev x)) (by kernel_rfl) (by kernel_rfl)
noncomputable def seqs_before_T (rs0 : List (List Int)) (first1 : Int) (levels2 : List Int) (base3 : Int) : Tr Int :=
  .br (first1 == 0) (
    .pure base3) (
    .bnd (idx rs0 (IntKind.i64.wrap (first1 - 1))) fun x_1 =>
    .bnd (idx x_1 (IntKind.i64.wrap ((x_1.length : Int) - 1))) fun x_2 =>
    .bnd (idx levels2 x_2) fun x_3 =>
    .pure x_3)
noncomputable def seqs_before_F (rs0 : List (List Int)) (first1 : Int) (levels2 : List Int) (base3 : Int) : Option Int := (seqs_before_T rs0 first1 levels2 base3).run
def seqs_before_L : List (Nat × LoopAnn) := []
noncomputable def seqs_before_C : List (Nat × Callee) := []
noncomputable def seqs_before_fun : Fun := ⟨[.sl Te, Th, .sl Th, Th], [.v Th], fun x => seqs_before_F x.1 x.2.1 x.2.2.1 x.2.2.2.1⟩
theorem seqs_before_ev (x : Tys.I [.sl Te, Th, .sl Th, Th]) : evFun G0 (of_ seqs_before_C) A0 (ol_ seqs_before_L) Tryz.f102 [.sl Te, Th, .sl Th, Th] [.v Th] x = seqs_before_T x.1 x.2.1 x.2.2.1 x.2.2.2.1 := by kernel_rfl
theorem seqs_before_ok : FunOk Tryz.prog 102 seqs_before_fun := evFun_ok mixed ctx0 (no_calls) Tryz.func102 (by kernel_rfl) _ (fun x => congrArg Tr.run (seqs_before_ev x)) (by kernel_rfl) (by kernel_rfl)
noncomputable def seqs_after_T (rs0 : List (List Int)) (last1 : Int) (levels2 : List Int) (cs3 : List Int) (base4 : Int) : Tr Int :=
  .bnd (idx rs0 last1) fun x_1 =>
  .br ((IntKind.i64.wrap (last1 + 1)) == (rs0.length : Int)) (
    .pure base4) (
    .bnd (idx x_1 (IntKind.i64.wrap ((x_1.length : Int) - 1))) fun x_2 =>
    .bnd (idx cs3 x_2) fun x_3 =>
    .bnd (bidic_Isolate_F x_3) fun c_4 =>
    .br c_4 (
      .pure base4) (
      .bnd (idx rs0 (IntKind.i64.wrap (last1 + 1))) fun x_5 =>
      .bnd (idx x_5 0) fun x_6 =>
      .bnd (idx levels2 x_6) fun x_7 =>
      .pure x_7))
noncomputable def seqs_after_F (rs0 : List (List Int)) (last1 : Int) (levels2 : List Int) (cs3 : List Int) (base4 : Int) : Option Int := (seqs_after_T rs0 last1 levels2 cs3 base4).run
def seqs_after_L : List (Nat × LoopAnn) := []
noncomputable def seqs_after_C : List (Nat × Callee) := [(87, .plain bidic_Isolate_fun)]
noncomputable def seqs_after_fun : Fun := ⟨[.sl Te, Th, .sl Th, .sl Ti, Th], [.v Th], fun x => seqs_after_F x.1 x.2.1 x.2.2.1 x.2.2.2.1 x.2.2.2.2.1⟩
theorem seqs_after_ev (x : Tys.I [.sl Te, Th, .sl Th, .sl Ti, Th]) : evFun G0 (of_ seqs_after_C) A0 (ol_ seqs_after_L) Tryz.f103 [.sl Te, Th, .sl Th, .sl Ti, Th] [.v Th] x = seqs_after_T x.1 x.2.1 x.2.2.1 x.2.2.2.1 x.2.2.2.2.1 := by kernel_rfl
theorem seqs_after_ok : FunOk Tryz.prog 103 seqs_after_fun := evFun_ok mixed ctx0 (pc bidic_Isolate_ok (no_calls)) Tryz.func103 (by kernel_rfl) _ (fun x => congrArg Tr.run (seqs_after_ev x)) (by kernel_rfl) (by kernel_rfl)
noncomputable def seqs_Of_L13 (levels0 : List Int) (cs1 : List Int) (base2 : Int) (rs7 : List (List Int)) (next8 : List Int) (joined9 : List Bool) (all10 : List (List Int × Int × Int × Int)) (first11 : Int) (places12 : List Int) (last13 : Int) (t31 : Int) (t32 : Int) : Tr (Lap (List Int × List Int × Int × List (List Int) × List Int × List Bool × (List (List Int × Int × Int × Int)) × Int × List Int × Int × Int × Int) (List Int × List Int × Int × List (List Int) × List Int × List Bool × (List (List Int × Int × Int × Int)) × Int × List Int × Int × Int × Int)) :=
  .bnd (idx next8 last13) fun x_7 =>
  .br (x_7 != (-1)) (
    .bnd (idx next8 last13) fun x_8 =>
    .bnd (idx joined9 x_8) fun x_9 =>
    .bnd (idx rs7 x_8) fun x_10 =>
    .bnd (app 17592186044416 places12 x_10) fun r_11 =>
    .pure (.next (levels0, cs1, base2, rs7, next8, joined9.set (Int.toNat x_8) true, all10, first11, r_11, x_8, t31, t32))) (
    .pure (.done (levels0, cs1, base2, rs7, next8, joined9, all10, first11, places12, last13, t31, t32)))
noncomputable def seqs_Of_L8 (levels0 : List Int) (cs1 : List Int) (base2 : Int) (rs7 : List (List Int)) (next8 : List Int) (joined9 : List Bool) (all10 : List (List Int × Int × Int × Int)) (t31 : Int) (t32 : Int) : Tr (Lap (List Int × List Int × Int × List (List Int) × List Int × List Bool × (List (List Int × Int × Int × Int)) × Int × Int) (List (List Int × Int × Int × Int))) :=
  .br (decide (t32 < t31)) (
    .bnd (idx joined9 t32) fun x_4 =>
    .br x_4 (
      .pure (.next (levels0, cs1, base2, rs7, next8, joined9, all10, t31, IntKind.i64.wrap (t32 + 1)))) (
      .bnd (idx rs7 t32) fun x_5 =>
      .bnd (slices_Clone___int_int__F x_5) fun c_6 =>
      .bnd (loopW (fun s => (seqs_Of_L13 s.1 s.2.1 s.2.2.1 s.2.2.2.1 s.2.2.2.2.1 s.2.2.2.2.2.1 s.2.2.2.2.2.2.1 s.2.2.2.2.2.2.2.1 s.2.2.2.2.2.2.2.2.1 s.2.2.2.2.2.2.2.2.2.1 s.2.2.2.2.2.2.2.2.2.2.1 s.2.2.2.2.2.2.2.2.2.2.2).run) (levels0, cs1, base2, rs7, next8, joined9, all10, t32, c_6, t32, t31, t32)) fun l_12 =>
      .bnd (idx l_12.2.2.2.2.2.2.2.2.1 0) fun x_13 =>
      .bnd (idx l_12.1 x_13) fun x_14 =>
      .bnd (seqs_before_F l_12.2.2.2.1 l_12.2.2.2.2.2.2.2.1 l_12.1 l_12.2.2.1) fun c_15 =>
      .bnd (seqs_direction_F (if c_15 > x_14 then c_15 else x_14)) fun c_16 =>
      .bnd (seqs_after_F l_12.2.2.2.1 l_12.2.2.2.2.2.2.2.2.2.1 l_12.1 l_12.2.1 l_12.2.2.1) fun c_17 =>
      .bnd (seqs_direction_F (if c_17 > x_14 then c_17 else x_14)) fun c_18 =>
      .bnd (app 3518437208883 l_12.2.2.2.2.2.2.1 ([(l_12.2.2.2.2.2.2.2.2.1, x_14, c_16, c_18)])) fun r_19 =>
      .pure (.next (l_12.1, l_12.2.1, l_12.2.2.1, l_12.2.2.2.1, l_12.2.2.2.2.1, l_12.2.2.2.2.2.1, r_19, l_12.2.2.2.2.2.2.2.2.2.2.1, IntKind.i64.wrap (l_12.2.2.2.2.2.2.2.2.2.2.2 + 1))))) (
    .pure (.done all10))
noncomputable def seqs_Of_T (levels0 : List Int) (cs1 : List Int) (base2 : Int) : Tr (List (List Int × Int × Int × Int)) :=
  .br ((levels0.length : Int) != (cs1.length : Int)) (
    .pure ([])) (
    .bnd (runs_Of_F levels0) fun c_1 =>
    .bnd (seqs_follow_F c_1 cs1) fun c_2 =>
    .bnd (mk 140737488355328 false (c_1.length : Int)) fun r_3 =>
    .bnd (loopW (fun s => (seqs_Of_L8 s.1 s.2.1 s.2.2.1 s.2.2.2.1 s.2.2.2.2.1 s.2.2.2.2.2.1 s.2.2.2.2.2.2.1 s.2.2.2.2.2.2.2.1 s.2.2.2.2.2.2.2.2).run) (levels0, cs1, base2, c_1, c_2, r_3, [], (c_1.length : Int), 0)) fun l_20 =>
    .pure l_20)
noncomputable def seqs_Of_F (levels0 : List Int) (cs1 : List Int) (base2 : Int) : Option (List (List Int × Int × Int × Int)) := (seqs_Of_T levels0 cs1 base2).run
def seqs_Of_L : List (Nat × LoopAnn) := [(13, { head := [.sv 0 false Te, .sv 1 false Tf, .sv 2 false Th, .srow 7 1000007 34 true Te, .srow 8 1000008 3 true Th, .srow 9 1000009 4 true .bool, .srow 10 1000010 163 true Ta, .sv 11 true Th, .srow 12 1000012 3 true Th, .sv 13 true Th, .sv 31 true Th, .sv 32 true Th], xid := 2, out := [.sv 0 false Te, .sv 1 false Tf, .sv 2 false Th, .srow 7 1000007 34 true Te, .srow 8 1000008 3 true Th, .srow 9 1000009 4 true .bool, .srow 10 1000010 163 true Ta, .sv 11 true Th, .srow 12 1000012 3 true Th, .sv 13 true Th, .sv 31 true Th, .sv 32 true Th], hasRet := false, res := [] }), (8, { head := [.sv 0 false Te, .sv 1 false Tf, .sv 2 false Th, .srow 7 1000007 34 true Te, .srow 8 1000008 3 true Th, .srow 9 1000009 4 true .bool, .srow 10 1000010 163 true Ta, .sv 31 true Th, .sv 32 true Th], xid := 0, out := [.srow 10 1000010 163 true Ta], hasRet := false, res := [] })]
noncomputable def seqs_Of_C : List (Nat × Callee) := [(99, .plain runs_Of_fun), (100, .plain seqs_follow_fun), (78, .plain slices_Clone___int_int__fun), (102, .plain seqs_before_fun), (101, .plain seqs_direction_fun), (103, .plain seqs_after_fun)]
noncomputable def seqs_Of_fun : Fun := ⟨[.sl Th, .sl Ti, Th], [.row 163 Ta], fun x => seqs_Of_F x.1 x.2.1 x.2.2.1⟩
theorem seqs_Of_ev (x : Tys.I [.sl Th, .sl Ti, Th]) : evFun G0 (of_ seqs_Of_C) A0 (ol_ seqs_Of_L) Tryz.f65 [.sl Th, .sl Ti, Th] [.row 163 Ta] x = seqs_Of_T x.1 x.2.1 x.2.2.1 := by kernel_rfl
theorem seqs_Of_ok : FunOk Tryz.prog 65 seqs_Of_fun := evFun_ok mixed ctx0 (pc runs_Of_ok (pc seqs_follow_ok (pc slices_Clone___int_int__ok (pc seqs_before_ok (pc seqs_direction_ok (pc seqs_after_ok (no_calls))))))) Tryz.func65 (by kernel_rfl) _ (fun x => congrArg Tr.run (seqs_Of_ev x)) (by kernel_rfl) (by kernel_rfl)
noncomputable def bidic_Class__T (s0 : List Int) : Tr (List Int) :=
  .bnd (app 140737488355328 ([]) s0) fun r_1 =>
  .pure r_1
noncomputable def bidic_Class__F (s0 : List Int) : Option (List Int) := (bidic_Class__T s0).run
def bidic_Class__L : List (Nat × LoopAnn) := []
noncomputable def bidic_Class__C : List (Nat × Callee) := []
noncomputable def bidic_Class__fun : Fun := ⟨[.sl Ti], [.row 156 Ti], fun x => bidic_Class__F x.1⟩
noncomputable def bidic_Class__T0 : Tr (List Int) :=
  .pure ([])
theorem bidic_Class__ev0 : evFunS G0 (fun f => olook f bidic_Class__C) ⟨[], [], [], [], [], []⟩ (fun i => olook i bidic_Class__L) Tryz.f124 [.nil] [.row 156 (.int .u8)] = bidic_Class__T0 := by kernel_rfl
theorem bidic_Class__ev1 (s0 : List Int) : evFunS G0 (fun f => olook f bidic_Class__C) ⟨[], [], [], [], [], []⟩ (fun i => olook i bidic_Class__L) Tryz.f124 [.nn false (.int .u8) s0] [.row 156 (.int .u8)] = bidic_Class__T s0 := by kernel_rfl
theorem bidic_Class__nil (r : List Int) (h : bidic_Class__F [] = some r) : bidic_Class__T0.run = some r := by
  simp [bidic_Class__F, bidic_Class__T, bidic_Class__T0, app, mk, Tr.run] at h ⊢
  exact h
theorem bidic_Class__ok : FunOk Tryz.prog 124 bidic_Class__fun := evFunN_ok (A := ⟨[], [], [], [], [], []⟩) (L := fun i => olook i bidic_Class__L) mixed ctx0 (no_calls) Tryz.func124 (by kernel_rfl) _ (fun r h => (congrArg Tr.run bidic_Class__ev0).trans (bidic_Class__nil r h)) (fun s0 r h => (congrArg Tr.run (bidic_Class__ev1 s0)).trans h) (by kernel_rfl)
noncomputable def weak_marks_L2 (cs0 : List Int) (before4 : Int) (t9 : Int) (t10 : Int) : Tr (Lap (List Int × Int × Int × Int) (List Int)) :=
  .br (decide (t10 < t9)) (
    .bnd (idx cs0 t10) fun _ =>
    .bnd (idx cs0 t10) fun x_2 =>
    .br (x_2 == 8) (
      .bnd (idx cs0 t10) fun _ =>
      .bnd (idx cs0 t10) fun _ =>
      .bnd (bidic_Isolate_F before4) fun c_4 =>
      .br c_4 (
        .bnd (idx (cs0.set (Int.toNat t10) before4) t10) fun _ =>
        .bnd (idx (cs0.set (Int.toNat t10) before4) t10) fun _ =>
        .bnd (idx ((cs0.set (Int.toNat t10) before4).set (Int.toNat t10) (13 : Int)) t10) fun _ =>
        .bnd (idx ((cs0.set (Int.toNat t10) before4).set (Int.toNat t10) (13 : Int)) t10) fun x_7 =>
        .pure (.next ((cs0.set (Int.toNat t10) before4).set (Int.toNat t10) (13 : Int), x_7, t9, IntKind.i64.wrap (t10 + 1)))) (
        .br (before4 == 22) (
          .bnd (idx (cs0.set (Int.toNat t10) before4) t10) fun _ =>
          .bnd (idx (cs0.set (Int.toNat t10) before4) t10) fun _ =>
          .bnd (idx ((cs0.set (Int.toNat t10) before4).set (Int.toNat t10) (13 : Int)) t10) fun _ =>
          .bnd (idx ((cs0.set (Int.toNat t10) before4).set (Int.toNat t10) (13 : Int)) t10) fun x_10 =>
          .pure (.next ((cs0.set (Int.toNat t10) before4).set (Int.toNat t10) (13 : Int), x_10, t9, IntKind.i64.wrap (t10 + 1)))) (
          .bnd (idx (cs0.set (Int.toNat t10) before4) t10) fun _ =>
          .bnd (idx (cs0.set (Int.toNat t10) before4) t10) fun x_12 =>
          .pure (.next (cs0.set (Int.toNat t10) before4, x_12, t9, IntKind.i64.wrap (t10 + 1)))))) (
      .bnd (idx cs0 t10) fun _ =>
      .bnd (idx cs0 t10) fun x_14 =>
      .pure (.next (cs0, x_14, t9, IntKind.i64.wrap (t10 + 1))))) (
    .pure (.done cs0))
noncomputable def weak_marks_T (cs0 : List Int) (sos1 : Int) : Tr (List Int × Unit) :=
  .bnd (loopW (fun s => (weak_marks_L2 s.1 s.2.1 s.2.2.1 s.2.2.2).run) (cs0, sos1, (cs0.length : Int), 0)) fun l_15 =>
  .pure (l_15, ())
noncomputable def weak_marks_F (cs0 : List Int) (sos1 : Int) : Option (List Int × Unit) := (weak_marks_T cs0 sos1).run
def weak_marks_L : List (Nat × LoopAnn) := [(2, { head := [.slrow 0 156 Ti, .sv 4 false Ti, .slref 8, .sv 9 true Th, .sv 10 true Th], xid := 0, out := [.slrow 0 156 Ti], hasRet := false, res := [] })]
noncomputable def weak_marks_C : List (Nat × Callee) := [(87, .plain bidic_Isolate_fun)]
noncomputable def weak_marks_fun : LFun := ⟨156, Ti, [Ti], [], fun s x => weak_marks_F s x.1⟩
theorem weak_marks_ev (s : List Int) (x : Tys.I [Ti]) : evFunL G0 (of_ weak_marks_C) A0 (ol_ weak_marks_L) Tryz.f125 156 Ti [Ti] [] s x = weak_marks_T s x.1 := by kernel_rfl
theorem weak_marks_ok : LentOk Tryz.prog 125 weak_marks_fun := evFunL_ok mixed ctx0 (pc bidic_Isolate_ok (no_calls)) Tryz.func125 (by kernel_rfl) rfl _ (fun s x => congrArg Tr.run (weak_marks_ev s x)) (by kernel_rfl)
noncomputable def weak_arabicNumbers_L2 (cs0 : List Int) (strong4 : Int) (t9 : Int) (t10 : Int) : Tr (Lap (List Int × Int × Int × Int) (List Int)) :=
  .br (decide (t10 < t9)) (
    .bnd (idx cs0 t10) fun _ =>
    .bnd (idx cs0 t10) fun x_2 =>
    .bnd (bidic_Strong_F x_2) fun c_3 =>
    .br c_3 (
      .br (x_2 == 3) (
        .br (x_2 == 2) (
          .bnd (idx cs0 t10) fun _ =>
          .bnd (idx cs0 t10) fun _ =>
          .pure (.next (cs0.set (Int.toNat t10) (6 : Int), x_2, t9, IntKind.i64.wrap (t10 + 1)))) (
          .pure (.next (cs0, x_2, t9, IntKind.i64.wrap (t10 + 1))))) (
        .pure (.next (cs0, x_2, t9, IntKind.i64.wrap (t10 + 1))))) (
      .br (x_2 == 3) (
        .br (strong4 == 2) (
          .bnd (idx cs0 t10) fun _ =>
          .bnd (idx cs0 t10) fun _ =>
          .pure (.next (cs0.set (Int.toNat t10) (6 : Int), strong4, t9, IntKind.i64.wrap (t10 + 1)))) (
          .pure (.next (cs0, strong4, t9, IntKind.i64.wrap (t10 + 1))))) (
        .pure (.next (cs0, strong4, t9, IntKind.i64.wrap (t10 + 1)))))) (
    .pure (.done cs0))
noncomputable def weak_arabicNumbers_T (cs0 : List Int) (sos1 : Int) : Tr (List Int × Unit) :=
  .bnd (loopW (fun s => (weak_arabicNumbers_L2 s.1 s.2.1 s.2.2.1 s.2.2.2).run) (cs0, sos1, (cs0.length : Int), 0)) fun l_6 =>
  .pure (l_6, ())
noncomputable def weak_arabicNumbers_F (cs0 : List Int) (sos1 : Int) : Option (List Int × Unit) := (weak_arabicNumbers_T cs0 sos1).run
def weak_arabicNumbers_L : List (Nat × LoopAnn) := [(2, { head := [.slrow 0 156 Ti, .sv 4 false Ti, .slref 8, .sv 9 true Th, .sv 10 true Th], xid := 0, out := [.slrow 0 156 Ti], hasRet := false, res := [] })]
noncomputable def weak_arabicNumbers_C : List (Nat × Callee) := [(88, .plain bidic_Strong_fun)]
noncomputable def weak_arabicNumbers_fun : LFun := ⟨156, Ti, [Ti], [], fun s x => weak_arabicNumbers_F s x.1⟩
theorem weak_arabicNumbers_ev (s : List Int) (x : Tys.I [Ti]) : evFunL G0 (of_ weak_arabicNumbers_C) A0 (ol_ weak_arabicNumbers_L) Tryz.f126 156 Ti [Ti] [] s x = weak_arabicNumbers_T s x.1 := by kernel_rfl
theorem weak_arabicNumbers_ok : LentOk Tryz.prog 126 weak_arabicNumbers_fun := evFunL_ok mixed ctx0 (pc bidic_Strong_ok (no_calls)) Tryz.func126 (by kernel_rfl) rfl _ (fun s x => congrArg Tr.run (weak_arabicNumbers_ev s x)) (by kernel_rfl)
noncomputable def weak_arabicLetters_L1 (cs0 : List Int) (t5 : Int) (t6 : Int) : Tr (Lap (List Int × Int × Int) (List Int)) :=
  .br (decide (t6 < t5)) (
    .bnd (idx cs0 t6) fun _ =>
    .bnd (idx cs0 t6) fun x_2 =>
    .br (x_2 == 2) (
      .bnd (idx cs0 t6) fun _ =>
      .bnd (idx cs0 t6) fun _ =>
      .pure (.next (cs0.set (Int.toNat t6) (1 : Int), t5, IntKind.i64.wrap (t6 + 1)))) (
      .pure (.next (cs0, t5, IntKind.i64.wrap (t6 + 1))))) (
    .pure (.done cs0))
noncomputable def weak_arabicLetters_T (cs0 : List Int) : Tr (List Int × Unit) :=
  .bnd (loopW (fun s => (weak_arabicLetters_L1 s.1 s.2.1 s.2.2).run) (cs0, (cs0.length : Int), 0)) fun l_4 =>
  .pure (l_4, ())
noncomputable def weak_arabicLetters_F (cs0 : List Int) : Option (List Int × Unit) := (weak_arabicLetters_T cs0).run
def weak_arabicLetters_L : List (Nat × LoopAnn) := [(1, { head := [.slrow 0 156 Ti, .slref 4, .sv 5 true Th, .sv 6 true Th], xid := 0, out := [.slrow 0 156 Ti], hasRet := false, res := [] })]
noncomputable def weak_arabicLetters_C : List (Nat × Callee) := []
noncomputable def weak_arabicLetters_fun : LFun := ⟨156, Ti, [], [], fun s _ => weak_arabicLetters_F s⟩
theorem weak_arabicLetters_ev (s : List Int) (x : Tys.I []) : evFunL G0 (of_ weak_arabicLetters_C) A0 (ol_ weak_arabicLetters_L) Tryz.f127 156 Ti [] [] s x = weak_arabicLetters_T s := by kernel_rfl
theorem weak_arabicLetters_ok : LentOk Tryz.prog 127 weak_arabicLetters_fun := evFunL_ok mixed ctx0 (no_calls) Tryz.func127 (by kernel_rfl) rfl _ (fun s x => congrArg Tr.run (weak_arabicLetters_ev s x)) (by kernel_rfl)
noncomputable def weak_joins_T (separator0 : Int) (number1 : Int) : Tr Bool :=
  .br (number1 == 3) (
    .br (separator0 == 4) (
      .pure true) (
      .pure (separator0 == 7))) (
    .br (number1 == 6) (
      .pure (separator0 == 7)) (
      .pure false))
noncomputable def weak_joins_F (separator0 : Int) (number1 : Int) : Option Bool := (weak_joins_T separator0 number1).run
def weak_joins_L : List (Nat × LoopAnn) := []
noncomputable def weak_joins_C : List (Nat × Callee) := []
noncomputable def weak_joins_fun : Fun := ⟨[Ti, Ti], [.v .bool], fun x => weak_joins_F x.1 x.2.1⟩
theorem weak_joins_ev (x : Tys.I [Ti, Ti]) : evFun G0 (of_ weak_joins_C) A0 (ol_ weak_joins_L) Tryz.f145 [Ti, Ti] [.v .bool] x = weak_joins_T x.1 x.2.1 := by kernel_rfl
theorem weak_joins_ok : FunOk Tryz.prog 145 weak_joins_fun := evFun_ok mixed ctx0 (no_calls) Tryz.func145 (by kernel_rfl) _ (fun x => congrArg Tr.run (weak_joins_ev x)) (by kernel_rfl) (by kernel_rfl)
noncomputable def weak_separators_L2 (cs0 : List Int) (before4 : Int) (t9 : Int) (t10 : Int) : Tr (Lap (List Int × Int × Int × Int) (List Int)) :=
  .br (decide (t10 < t9)) (
    .bnd (idx cs0 t10) fun _ =>
    .bnd (idx cs0 t10) fun x_2 =>
    .br (decide ((IntKind.i64.wrap (t10 + 1)) < (cs0.length : Int))) (
      .bnd (idx cs0 (IntKind.i64.wrap (t10 + 1))) fun _ =>
      .bnd (idx cs0 (IntKind.i64.wrap (t10 + 1))) fun x_4 =>
      .br (x_4 == before4) (
        .bnd (weak_joins_F x_2 before4) fun c_5 =>
        .br c_5 (
          .bnd (idx cs0 t10) fun _ =>
          .bnd (idx cs0 t10) fun _ =>
          .bnd (idx (cs0.set (Int.toNat t10) before4) t10) fun _ =>
          .bnd (idx (cs0.set (Int.toNat t10) before4) t10) fun x_8 =>
          .pure (.next (cs0.set (Int.toNat t10) before4, x_8, t9, IntKind.i64.wrap (t10 + 1)))) (
          .bnd (idx cs0 t10) fun _ =>
          .bnd (idx cs0 t10) fun x_10 =>
          .pure (.next (cs0, x_10, t9, IntKind.i64.wrap (t10 + 1))))) (
        .bnd (idx cs0 t10) fun _ =>
        .bnd (idx cs0 t10) fun x_12 =>
        .pure (.next (cs0, x_12, t9, IntKind.i64.wrap (t10 + 1))))) (
      .bnd (idx cs0 t10) fun _ =>
      .bnd (idx cs0 t10) fun x_14 =>
      .pure (.next (cs0, x_14, t9, IntKind.i64.wrap (t10 + 1))))) (
    .pure (.done cs0))
noncomputable def weak_separators_T (cs0 : List Int) (sos1 : Int) : Tr (List Int × Unit) :=
  .bnd (loopW (fun s => (weak_separators_L2 s.1 s.2.1 s.2.2.1 s.2.2.2).run) (cs0, sos1, (cs0.length : Int), 0)) fun l_15 =>
  .pure (l_15, ())
noncomputable def weak_separators_F (cs0 : List Int) (sos1 : Int) : Option (List Int × Unit) := (weak_separators_T cs0 sos1).run
def weak_separators_L : List (Nat × LoopAnn) := [(2, { head := [.slrow 0 156 Ti, .sv 4 false Ti, .slref 8, .sv 9 true Th, .sv 10 true Th], xid := 0, out := [.slrow 0 156 Ti], hasRet := false, res := [] })]
noncomputable def weak_separators_C : List (Nat × Callee) := [(145, .plain weak_joins_fun)]
noncomputable def weak_separators_fun : LFun := ⟨156, Ti, [Ti], [], fun s x => weak_separators_F s x.1⟩
theorem weak_separators_ev (s : List Int) (x : Tys.I [Ti]) : evFunL G0 (of_ weak_separators_C) A0 (ol_ weak_separators_L) Tryz.f128 156 Ti [Ti] [] s x = weak_separators_T s x.1 := by kernel_rfl
theorem weak_separators_ok : LentOk Tryz.prog 128 weak_separators_fun := evFunL_ok mixed ctx0 (pc weak_joins_ok (no_calls)) Tryz.func128 (by kernel_rfl) rfl _ (fun s x => congrArg Tr.run (weak_separators_ev s x)) (by kernel_rfl)
noncomputable def weak_terminators_L4 (cs0 : List Int) (before4 : Int) (from5 : Int) (to6 : Int) : Tr (Lap (List Int × Int × Int × Int) (List Int × Int × Int × Int)) :=
  .br (decide (to6 < (cs0.length : Int))) (
    .bnd (idx cs0 to6) fun _ =>
    .bnd (idx cs0 to6) fun x_2 =>
    .br (x_2 == 5) (
      .pure (.next (cs0, before4, from5, IntKind.i64.wrap (to6 + 1)))) (
      .pure (.done (cs0, before4, from5, to6)))) (
    .pure (.done (cs0, before4, from5, to6)))
noncomputable def weak_terminators_L8 (cs0 : List Int) (before4 : Int) (to6 : Int) (i7 : Int) : Tr (Lap (List Int × Int × Int × Int) (List Int × Int × Int)) :=
  .br (decide (i7 < to6)) (
    .bnd (idx cs0 i7) fun _ =>
    .bnd (idx cs0 i7) fun _ =>
    .pure (.next (cs0.set (Int.toNat i7) (3 : Int), before4, to6, IntKind.i64.wrap (i7 + 1)))) (
    .pure (.done (cs0, before4, to6)))
noncomputable def weak_terminators_L2 (cs0 : List Int) (before4 : Int) (from5 : Int) : Tr (Lap (List Int × Int × Int) (List Int)) :=
  .br (decide (from5 < (cs0.length : Int))) (
    .bnd (loopW (fun s => (weak_terminators_L4 s.1 s.2.1 s.2.2.1 s.2.2.2).run) (cs0, before4, from5, from5)) fun l_3 =>
    .br (l_3.2.1 == 3) (
      .bnd (loopW (fun s => (weak_terminators_L8 s.1 s.2.1 s.2.2.1 s.2.2.2).run) (l_3.1, l_3.2.1, l_3.2.2.2, l_3.2.2.1)) fun l_5 =>
      .br (decide (l_5.2.2 < (l_5.1.length : Int))) (
        .bnd (idx l_5.1 l_5.2.2) fun _ =>
        .bnd (idx l_5.1 l_5.2.2) fun x_7 =>
        .pure (.next (l_5.1, x_7, IntKind.i64.wrap (l_5.2.2 + 1)))) (
        .pure (.next (l_5.1, l_5.2.1, IntKind.i64.wrap (l_5.2.2 + 1))))) (
      .br (decide (l_3.2.2.2 < (l_3.1.length : Int))) (
        .bnd (idx l_3.1 l_3.2.2.2) fun _ =>
        .bnd (idx l_3.1 l_3.2.2.2) fun x_9 =>
        .br (x_9 == 3) (
          .bnd (loopW (fun s => (weak_terminators_L8 s.1 s.2.1 s.2.2.1 s.2.2.2).run) (l_3.1, l_3.2.1, l_3.2.2.2, l_3.2.2.1)) fun l_10 =>
          .br (decide (l_10.2.2 < (l_10.1.length : Int))) (
            .bnd (idx l_10.1 l_10.2.2) fun _ =>
            .bnd (idx l_10.1 l_10.2.2) fun x_12 =>
            .pure (.next (l_10.1, x_12, IntKind.i64.wrap (l_10.2.2 + 1)))) (
            .pure (.next (l_10.1, l_10.2.1, IntKind.i64.wrap (l_10.2.2 + 1))))) (
          .br (decide (l_3.2.2.2 < (l_3.1.length : Int))) (
            .bnd (idx l_3.1 l_3.2.2.2) fun _ =>
            .bnd (idx l_3.1 l_3.2.2.2) fun x_14 =>
            .pure (.next (l_3.1, x_14, IntKind.i64.wrap (l_3.2.2.2 + 1)))) (
            .pure (.next (l_3.1, l_3.2.1, IntKind.i64.wrap (l_3.2.2.2 + 1)))))) (
        .br (decide (l_3.2.2.2 < (l_3.1.length : Int))) (
          .bnd (idx l_3.1 l_3.2.2.2) fun _ =>
          .bnd (idx l_3.1 l_3.2.2.2) fun x_16 =>
          .pure (.next (l_3.1, x_16, IntKind.i64.wrap (l_3.2.2.2 + 1)))) (
          .pure (.next (l_3.1, l_3.2.1, IntKind.i64.wrap (l_3.2.2.2 + 1))))))) (
    .pure (.done cs0))
noncomputable def weak_terminators_T (cs0 : List Int) (sos1 : Int) : Tr (List Int × Unit) :=
  .bnd (loopW (fun s => (weak_terminators_L2 s.1 s.2.1 s.2.2).run) (cs0, sos1, 0)) fun l_17 =>
  .pure (l_17, ())
noncomputable def weak_terminators_F (cs0 : List Int) (sos1 : Int) : Option (List Int × Unit) := (weak_terminators_T cs0 sos1).run
def weak_terminators_L : List (Nat × LoopAnn) := [(4, { head := [.slrow 0 156 Ti, .sv 4 false Ti, .sv 5 true Th, .sv 6 true Th], xid := 2, out := [.slrow 0 156 Ti, .sv 4 false Ti, .sv 5 true Th, .sv 6 true Th], hasRet := false, res := [] }), (8, { head := [.slrow 0 156 Ti, .sv 4 false Ti, .sv 6 true Th, .sv 7 true Th], xid := 4, out := [.slrow 0 156 Ti, .sv 4 false Ti, .sv 6 true Th], hasRet := false, res := [] }), (2, { head := [.slrow 0 156 Ti, .sv 4 false Ti, .sv 5 true Th], xid := 0, out := [.slrow 0 156 Ti], hasRet := false, res := [] })]
noncomputable def weak_terminators_C : List (Nat × Callee) := []
noncomputable def weak_terminators_fun : LFun := ⟨156, Ti, [Ti], [], fun s x => weak_terminators_F s x.1⟩
theorem weak_terminators_ev (s : List Int) (x : Tys.I [Ti]) : evFunL G0 (of_ weak_terminators_C) A0 (ol_ weak_terminators_L) Tryz.f129 156 Ti [Ti] [] s x = weak_terminators_T s x.1 := by kernel_rfl
theorem weak_terminators_ok : LentOk Tryz.prog 129 weak_terminators_fun := evFunL_ok mixed ctx0 (no_calls) Tryz.func129 (by kernel_rfl) rfl _ (fun s x => congrArg Tr.run (weak_terminators_ev s x)) (by kernel_rfl)
noncomputable def weak_leftovers_L1 (cs0 : List Int) (t5 : Int) (t6 : Int) : Tr (Lap (List Int × Int × Int) (List Int)) :=
  .br (decide (t6 < t5)) (
    .bnd (idx cs0 t6) fun _ =>
    .bnd (idx cs0 t6) fun x_2 =>
    .br (x_2 == 4) (
      .bnd (idx cs0 t6) fun _ =>
      .bnd (idx cs0 t6) fun _ =>
      .pure (.next (cs0.set (Int.toNat t6) (13 : Int), t5, IntKind.i64.wrap (t6 + 1)))) (
      .br (x_2 == 5) (
        .bnd (idx cs0 t6) fun _ =>
        .bnd (idx cs0 t6) fun _ =>
        .pure (.next (cs0.set (Int.toNat t6) (13 : Int), t5, IntKind.i64.wrap (t6 + 1)))) (
        .br (x_2 == 7) (
          .bnd (idx cs0 t6) fun _ =>
          .bnd (idx cs0 t6) fun _ =>
          .pure (.next (cs0.set (Int.toNat t6) (13 : Int), t5, IntKind.i64.wrap (t6 + 1)))) (
          .pure (.next (cs0, t5, IntKind.i64.wrap (t6 + 1))))))) (
    .pure (.done cs0))
noncomputable def weak_leftovers_T (cs0 : List Int) : Tr (List Int × Unit) :=
  .bnd (loopW (fun s => (weak_leftovers_L1 s.1 s.2.1 s.2.2).run) (cs0, (cs0.length : Int), 0)) fun l_6 =>
  .pure (l_6, ())
noncomputable def weak_leftovers_F (cs0 : List Int) : Option (List Int × Unit) := (weak_leftovers_T cs0).run
def weak_leftovers_L : List (Nat × LoopAnn) := [(1, { head := [.slrow 0 156 Ti, .slref 4, .sv 5 true Th, .sv 6 true Th], xid := 0, out := [.slrow 0 156 Ti], hasRet := false, res := [] })]
noncomputable def weak_leftovers_C : List (Nat × Callee) := []
noncomputable def weak_leftovers_fun : LFun := ⟨156, Ti, [], [], fun s _ => weak_leftovers_F s⟩
theorem weak_leftovers_ev (s : List Int) (x : Tys.I []) : evFunL G0 (of_ weak_leftovers_C) A0 (ol_ weak_leftovers_L) Tryz.f130 156 Ti [] [] s x = weak_leftovers_T s := by kernel_rfl
theorem weak_leftovers_ok : LentOk Tryz.prog 130 weak_leftovers_fun := evFunL_ok mixed ctx0 (no_calls) Tryz.func130 (by kernel_rfl) rfl _ (fun s x => congrArg Tr.run (weak_leftovers_ev s x)) (by kernel_rfl)
noncomputable def weak_latinNumbers_L2 (cs0 : List Int) (strong4 : Int) (t9 : Int) (t10 : Int) : Tr (Lap (List Int × Int × Int × Int) (List Int)) :=
  .br (decide (t10 < t9)) (
    .bnd (idx cs0 t10) fun _ =>
    .bnd (idx cs0 t10) fun x_2 =>
    .br (x_2 == 0) (
      .br (x_2 == 3) (
        .br (x_2 == 0) (
          .bnd (idx cs0 t10) fun _ =>
          .bnd (idx cs0 t10) fun _ =>
          .pure (.next (cs0.set (Int.toNat t10) (0 : Int), x_2, t9, IntKind.i64.wrap (t10 + 1)))) (
          .pure (.next (cs0, x_2, t9, IntKind.i64.wrap (t10 + 1))))) (
        .pure (.next (cs0, x_2, t9, IntKind.i64.wrap (t10 + 1))))) (
      .br (x_2 == 1) (
        .br (x_2 == 3) (
          .br (x_2 == 0) (
            .bnd (idx cs0 t10) fun _ =>
            .bnd (idx cs0 t10) fun _ =>
            .pure (.next (cs0.set (Int.toNat t10) (0 : Int), x_2, t9, IntKind.i64.wrap (t10 + 1)))) (
            .pure (.next (cs0, x_2, t9, IntKind.i64.wrap (t10 + 1))))) (
          .pure (.next (cs0, x_2, t9, IntKind.i64.wrap (t10 + 1))))) (
        .br (x_2 == 3) (
          .br (strong4 == 0) (
            .bnd (idx cs0 t10) fun _ =>
            .bnd (idx cs0 t10) fun _ =>
            .pure (.next (cs0.set (Int.toNat t10) (0 : Int), strong4, t9, IntKind.i64.wrap (t10 + 1)))) (
            .pure (.next (cs0, strong4, t9, IntKind.i64.wrap (t10 + 1))))) (
          .pure (.next (cs0, strong4, t9, IntKind.i64.wrap (t10 + 1))))))) (
    .pure (.done cs0))
noncomputable def weak_latinNumbers_T (cs0 : List Int) (sos1 : Int) : Tr (List Int × Unit) :=
  .bnd (loopW (fun s => (weak_latinNumbers_L2 s.1 s.2.1 s.2.2.1 s.2.2.2).run) (cs0, sos1, (cs0.length : Int), 0)) fun l_6 =>
  .pure (l_6, ())
noncomputable def weak_latinNumbers_F (cs0 : List Int) (sos1 : Int) : Option (List Int × Unit) := (weak_latinNumbers_T cs0 sos1).run
def weak_latinNumbers_L : List (Nat × LoopAnn) := [(2, { head := [.slrow 0 156 Ti, .sv 4 false Ti, .slref 8, .sv 9 true Th, .sv 10 true Th], xid := 0, out := [.slrow 0 156 Ti], hasRet := false, res := [] })]
noncomputable def weak_latinNumbers_C : List (Nat × Callee) := []
noncomputable def weak_latinNumbers_fun : LFun := ⟨156, Ti, [Ti], [], fun s x => weak_latinNumbers_F s x.1⟩
theorem weak_latinNumbers_ev (s : List Int) (x : Tys.I [Ti]) : evFunL G0 (of_ weak_latinNumbers_C) A0 (ol_ weak_latinNumbers_L) Tryz.f131 156 Ti [Ti] [] s x = weak_latinNumbers_T s x.1 := by kernel_rfl
theorem weak_latinNumbers_ok : LentOk Tryz.prog 131 weak_latinNumbers_fun := evFunL_ok mixed ctx0 (no_calls) Tryz.func131 (by kernel_rfl) rfl _ (fun s x => congrArg Tr.run (weak_latinNumbers_ev s x)) (by kernel_rfl)
noncomputable def weak_Resolve_T (cs0 : List Int) (sos1 : Int) : Tr (List Int) :=
  .bnd (bidic_Class__F cs0) fun c_1 =>
  .bnd (weak_marks_F c_1 sos1) fun c_2 =>
  .bnd (weak_arabicNumbers_F c_2.1 sos1) fun c_3 =>
  .bnd (weak_arabicLetters_F c_3.1) fun c_4 =>
  .bnd (weak_separators_F c_4.1 sos1) fun c_5 =>
  .bnd (weak_terminators_F c_5.1 sos1) fun c_6 =>
  .bnd (weak_leftovers_F c_6.1) fun c_7 =>
  .bnd (weak_latinNumbers_F c_7.1 sos1) fun c_8 =>
  .pure c_8.1
noncomputable def weak_Resolve_F (cs0 : List Int) (sos1 : Int) : Option (List Int) := (weak_Resolve_T cs0 sos1).run
def weak_Resolve_L : List (Nat × LoopAnn) := []
noncomputable def weak_Resolve_C : List (Nat × Callee) := [(124, .plain bidic_Class__fun), (125, .lent weak_marks_fun), (126, .lent weak_arabicNumbers_fun), (127, .lent weak_arabicLetters_fun), (128, .lent weak_separators_fun), (129, .lent weak_terminators_fun), (130, .lent weak_leftovers_fun), (131, .lent weak_latinNumbers_fun)]
noncomputable def weak_Resolve_fun : Fun := ⟨[.sl Ti, Ti], [.row 156 Ti], fun x => weak_Resolve_F x.1 x.2.1⟩
theorem weak_Resolve_ev (x : Tys.I [.sl Ti, Ti]) : evFun G0 (of_ weak_Resolve_C) ⟨[], [], [125, 126, 127, 128, 129, 130, 131], [], [], []⟩ (ol_ weak_Resolve_L) Tryz.f104 [.sl Ti, Ti] [.row 156 Ti] x = weak_Resolve_T x.1 x.2.1 := by kernel_rfl
theorem weak_Resolve_ok : FunOk Tryz.prog 104 weak_Resolve_fun := evFun_ok mixed ctx0 (pc bidic_Class__ok (cons_calls (fb := .lent weak_marks_fun) weak_marks_ok (fun h => by rfl) (cons_calls (fb := .lent weak_arabicNumbers_fun) weak_arabicNumbers_ok (fun h => by rfl) (cons_calls (fb := .lent weak_arabicLetters_fun) weak_arabicLetters_ok (fun h => by rfl) (cons_calls (fb := .lent weak_separators_fun) weak_separators_ok (fun h => by rfl) (cons_calls (fb := .lent weak_terminators_fun) weak_terminators_ok (fun h => by rfl) (cons_calls (fb := .lent weak_leftovers_fun) weak_leftovers_ok (fun h => by rfl) (cons_calls (fb := .lent weak_latinNumbers_fun) weak_latinNumbers_ok (fun h => by rfl) (no_calls))))))))) Tryz.func104 (by kernel_rfl) _ (fun x => congrArg Tr.run (weak_Resolve_ev x)) (by kernel_rfl) (by kernel_rfl)
noncomputable def mirror_bracket_T (p0 : Int × Int) : Tr Bool :=
  .br (p0.1 == 60) (
    .pure false) (
    .br (p0.1 == 171) (
      .pure false) (
      .br (p0.1 == 8249) (
        .pure false) (
        .br (p0.1 == 8712) (
          .pure false) (
          .br (p0.1 == 8713) (
            .pure false) (
            .br (p0.1 == 8804) (
              .pure false) (
              .br (p0.1 == 8806) (
                .pure false) (
                .br (p0.1 == 8810) (
                  .pure false) (
                  .br (p0.1 == 8834) (
                    .pure false) (
                    .br (p0.1 == 8838) (
                      .pure false) (
                      .br (p0.1 == 65308) (
                        .pure false) (
                        .pure true)))))))))))
noncomputable def mirror_bracket_F (p0 : Int × Int) : Option Bool := (mirror_bracket_T p0).run
def mirror_bracket_L : List (Nat × LoopAnn) := []
noncomputable def mirror_bracket_C : List (Nat × Callee) := []
noncomputable def mirror_bracket_fun : Fun := ⟨[.st (.pair Tj Tj)], [.v .bool], fun x => mirror_bracket_F x.1⟩
theorem mirror_bracket_ev (x : Tys.I [.st (.pair Tj Tj)]) : evFun G0 (of_ mirror_bracket_C) A0 (ol_ mirror_bracket_L) Tryz.f149 [.st (.pair Tj Tj)] [.v .bool] x = mirror_bracket_T x.1 := by kernel_rfl
theorem mirror_bracket_ok : FunOk Tryz.prog 149 mirror_bracket_fun := evFun_ok mixed ctx0 (no_calls) Tryz.func149 (by kernel_rfl) _ (fun x => congrArg Tr.run (mirror_bracket_ev x)) (by kernel_rfl) (by kernel_rfl)
noncomputable def mirror_known_T (left0 : Int) : Tr Int :=
  .br (left0 == 9001) (
    .pure 12296) (
    .pure left0)
noncomputable def mirror_known_F (left0 : Int) : Option Int := (mirror_known_T left0).run
def mirror_known_L : List (Nat × LoopAnn) := []
noncomputable def mirror_known_C : List (Nat × Callee) := []
noncomputable def mirror_known_fun : Fun := ⟨[Tj], [.v Tj], fun x => mirror_known_F x.1⟩
theorem mirror_known_ev (x : Tys.I [Tj]) : evFun G0 (of_ mirror_known_C) A0 (ol_ mirror_known_L) Tryz.f150 [Tj] [.v Tj] x = mirror_known_T x.1 := by kernel_rfl
theorem mirror_known_ok : FunOk Tryz.prog 150 mirror_known_fun := evFun_ok mixed ctx0 (no_calls) Tryz.func150 (by kernel_rfl) _ (fun x => congrArg Tr.run (mirror_known_ev x)) (by kernel_rfl) (by kernel_rfl)
noncomputable def mirror_Bracket_L2 (r0 : Int) (t6 : List (Int × Int)) (t7 : Int) : Tr (Lap (Int × (List (Int × Int)) × Int) (Sum Unit (Int × Int))) :=
  .br (decide (t7 < 35)) (
    .bnd (idx t6 t7) fun x_1 =>
    .bnd (idx ([x_1]) 0) fun x_2 =>
    .br (x_2.1 != r0) (
      .bnd (idx ([x_1]) 0) fun x_3 =>
      .br (x_3.2 != r0) (
        .pure (.next (r0, t6, IntKind.i64.wrap (t7 + 1)))) (
        .bnd (idx ([x_1]) 0) fun x_4 =>
        .bnd (mirror_bracket_F x_4) fun c_5 =>
        .br (!c_5) (
          .pure (.next (r0, t6, IntKind.i64.wrap (t7 + 1)))) (
          .bnd (idx ([x_1]) 0) fun x_6 =>
          .br (x_6.1 == r0) (
            .bnd (idx ([x_1]) 0) fun x_7 =>
            .bnd (mirror_known_F x_7.1) fun c_8 =>
            .pure (.done (.inr (1, c_8)))) (
            .bnd (idx ([x_1]) 0) fun x_9 =>
            .bnd (mirror_known_F x_9.1) fun c_10 =>
            .pure (.done (.inr (2, c_10))))))) (
      .bnd (idx ([x_1]) 0) fun x_11 =>
      .bnd (mirror_bracket_F x_11) fun c_12 =>
      .br (!c_12) (
        .pure (.next (r0, t6, IntKind.i64.wrap (t7 + 1)))) (
        .bnd (idx ([x_1]) 0) fun x_13 =>
        .br (x_13.1 == r0) (
          .bnd (idx ([x_1]) 0) fun x_14 =>
          .bnd (mirror_known_F x_14.1) fun c_15 =>
          .pure (.done (.inr (1, c_15)))) (
          .bnd (idx ([x_1]) 0) fun x_16 =>
          .bnd (mirror_known_F x_16.1) fun c_17 =>
          .pure (.done (.inr (2, c_17))))))) (
    .pure (.done (.inl ())))
noncomputable def mirror_Bracket_T (r0 : Int) : Tr (Int × Int) :=
  .alt (loopW (fun s => (mirror_Bracket_L2 s.1 s.2.1 s.2.2).run) (r0, gtab, 0)) (fun l_18 =>
    .pure (0, 0)) (fun l_19 =>
    .pure (l_19.1, l_19.2))
noncomputable def mirror_Bracket_F (r0 : Int) : Option (Int × Int) := (mirror_Bracket_T r0).run
def mirror_Bracket_L : List (Nat × LoopAnn) := [(2, { head := [.sv 0 false Tj, .sv 6 true (.arr 35 (.st (.pair Tj Tj))), .sv 7 true Th], xid := 0, out := [], hasRet := true, res := [.sv 2 true Th, .sv 3 true Tj] })]
noncomputable def mirror_Bracket_C : List (Nat × Callee) := [(149, .plain mirror_bracket_fun), (150, .plain mirror_known_fun)]
noncomputable def mirror_Bracket_fun : Fun := ⟨[Tj], [.v Th, .v Tj], fun x => mirror_Bracket_F x.1⟩
theorem mirror_Bracket_ev (x : Tys.I [Tj]) : evFun G0 (of_ mirror_Bracket_C) A0 (ol_ mirror_Bracket_L) Tryz.f147 [Tj] [.v Th, .v Tj] x = mirror_Bracket_T x.1 := by kernel_rfl
theorem mirror_Bracket_ok : FunOk Tryz.prog 147 mirror_Bracket_fun := evFun_ok mixed ctx0 (pc mirror_bracket_ok (pc mirror_known_ok (no_calls))) Tryz.func147 (by kernel_rfl) _ (fun x => congrArg Tr.run (mirror_Bracket_ev x)) (by kernel_rfl) (by kernel_rfl)
noncomputable def pairs_find_L2 (stack0 : List (Int × Int)) (known1 : Int) (k5 : Int) : Tr (Lap ((List (Int × Int)) × Int × Int) (Sum Unit Int)) :=
  .br (decide (k5 ≥ 0)) (
    .bnd (idx stack0 k5) fun x_1 =>
    .br (x_1.2 == known1) (
      .pure (.done (.inr k5))) (
      .pure (.next (stack0, known1, IntKind.i64.wrap (k5 - 1))))) (
    .pure (.done (.inl ())))
noncomputable def pairs_find_T (stack0 : List (Int × Int)) (known1 : Int) : Tr Int :=
  .alt (loopW (fun s => (pairs_find_L2 s.1 s.2.1 s.2.2).run) (stack0, known1, IntKind.i64.wrap ((stack0.length : Int) - 1))) (fun l_2 =>
    .pure (-1)) (fun l_3 =>
    .pure l_3)
noncomputable def pairs_find_F (stack0 : List (Int × Int)) (known1 : Int) : Option Int := (pairs_find_T stack0 known1).run
def pairs_find_L : List (Nat × LoopAnn) := [(2, { head := [.sv 0 false (.sl (.st (.pair Th Tj))), .sv 1 false Tj, .sv 5 true Th], xid := 0, out := [], hasRet := true, res := [.sv 4 true Th] })]
noncomputable def pairs_find_C : List (Nat × Callee) := []
noncomputable def pairs_find_fun : Fun := ⟨[.sl (.st (.pair Th Tj)), Tj], [.v Th], fun x => pairs_find_F x.1 x.2.1⟩
theorem pairs_find_ev (x : Tys.I [.sl (.st (.pair Th Tj)), Tj]) : evFun G0 (of_ pairs_find_C) A0 (ol_ pairs_find_L) Tryz.f148 [.sl (.st (.pair Th Tj)), Tj] [.v Th] x = pairs_find_T x.1 x.2.1 := by kernel_rfl
theorem pairs_find_ok : FunOk Tryz.prog 148 pairs_find_fun := evFun_ok mixed ctx0 (no_calls) Tryz.func148 (by kernel_rfl) _ (fun x => congrArg Tr.run (pairs_find_ev x)) (by kernel_rfl) (by kernel_rfl)
noncomputable def pairs_closings_L5 (rs0 : List Int) (cs1 : List Int) (closes6 : List Int) (stack7 : List (Int × Int)) (t19 : Int) (t20 : Int) : Tr (Lap (List Int × List Int × List Int × (List (Int × Int)) × Int × Int) (Sum (List Int) (List Int))) :=
  .br (decide (t20 < t19)) (
    .bnd (idx cs1 t20) fun x_2 =>
    .br (x_2 != 13) (
      .pure (.next (rs0, cs1, closes6, stack7, t19, IntKind.i64.wrap (t20 + 1)))) (
      .bnd (idx rs0 t20) fun x_3 =>
      .bnd (mirror_Bracket_F x_3) fun c_4 =>
      .br (c_4.1 == 1) (
        .br ((stack7.length : Int) == 63) (
          .pure (.done (.inr closes6))) (
          .bnd (app 8796093022208 stack7 ([(t20, c_4.2)])) fun r_5 =>
          .pure (.next (rs0, cs1, closes6, r_5, t19, IntKind.i64.wrap (t20 + 1))))) (
        .br (c_4.1 == 2) (
          .bnd (pairs_find_F stack7 c_4.2) fun c_6 =>
          .br (decide (c_6 ≥ 0)) (
            .bnd (idx stack7 c_6) fun x_7 =>
            .bnd (idx closes6 x_7.1) fun x_8 =>
            .bnd (cut stack7 0 c_6) fun r_9 =>
            .pure (.next (rs0, cs1, closes6.set (Int.toNat x_7.1) t20, r_9, t19, IntKind.i64.wrap (t20 + 1)))) (
            .pure (.next (rs0, cs1, closes6, stack7, t19, IntKind.i64.wrap (t20 + 1))))) (
          .pure (.next (rs0, cs1, closes6, stack7, t19, IntKind.i64.wrap (t20 + 1))))))) (
    .pure (.done (.inl closes6)))
noncomputable def pairs_closings_T (rs0 : List Int) (cs1 : List Int) : Tr (List Int) :=
  .bnd (mk 17592186044416 0 (if (cs1.length : Int) < (rs0.length : Int) then (cs1.length : Int) else (rs0.length : Int))) fun r_1 =>
  .alt (loopW (fun s => (pairs_closings_L5 s.1 s.2.1 s.2.2.1 s.2.2.2.1 s.2.2.2.2.1 s.2.2.2.2.2).run) (rs0, cs1, r_1, [], if (cs1.length : Int) < (rs0.length : Int) then (cs1.length : Int) else (rs0.length : Int), 0)) (fun l_10 =>
    .pure l_10) (fun l_11 =>
    .pure l_11)
noncomputable def pairs_closings_F (rs0 : List Int) (cs1 : List Int) : Option (List Int) := (pairs_closings_T rs0 cs1).run
def pairs_closings_L : List (Nat × LoopAnn) := [(5, { head := [.sv 0 false Tg, .sv 1 false Tf, .srow 6 1000006 3 true Th, .srow 7 1000007 255 true (.st (.pair Th Tj)), .sv 19 true Th, .sv 20 true Th], xid := 0, out := [.srow 6 1000006 3 true Th], hasRet := true, res := [.srow 4 1000004 3 true Th] })]
noncomputable def pairs_closings_C : List (Nat × Callee) := [(147, .plain mirror_Bracket_fun), (148, .plain pairs_find_fun)]
noncomputable def pairs_closings_fun : Fun := ⟨[.sl Tj, .sl Ti], [.row 3 Th], fun x => pairs_closings_F x.1 x.2.1⟩
theorem pairs_closings_ev (x : Tys.I [.sl Tj, .sl Ti]) : evFun G0 (of_ pairs_closings_C) ⟨[66], [], [], [], [], []⟩ (ol_ pairs_closings_L) Tryz.f146 [.sl Tj, .sl Ti] [.row 3 Th] x = pairs_closings_T x.1 x.2.1 := by kernel_rfl
theorem pairs_closings_ok : FunOk Tryz.prog 146 pairs_closings_fun := evFun_ok mixed ctx0 (pc mirror_Bracket_ok (pc pairs_find_ok (no_calls))) Tryz.func146 (by kernel_rfl) _ (fun x => congrArg Tr.run (pairs_closings_ev x)) (by kernel_rfl) (by kernel_rfl)
noncomputable def pairs_Of_L4 (ps6 : List (Int × Int)) (t12 : List Int) (t13 : Int) (t14 : Int) : Tr (Lap ((List (Int × Int)) × List Int × Int × Int) (List (Int × Int))) :=
  .br (decide (t14 < t13)) (
    .bnd (idx t12 t14) fun x_2 =>
    .br (decide (x_2 > 0)) (
      .bnd (app 8796093022208 ps6 ([(t14, x_2)])) fun r_3 =>
      .pure (.next (r_3, t12, t13, IntKind.i64.wrap (t14 + 1)))) (
      .pure (.next (ps6, t12, t13, IntKind.i64.wrap (t14 + 1))))) (
    .pure (.done ps6))
noncomputable def pairs_Of_T (rs0 : List Int) (cs1 : List Int) : Tr (List (Int × Int)) :=
  .bnd (pairs_closings_F rs0 cs1) fun c_1 =>
  .bnd (loopW (fun s => (pairs_Of_L4 s.1 s.2.1 s.2.2.1 s.2.2.2).run) ([], c_1, (c_1.length : Int), 0)) fun l_4 =>
  .pure l_4
noncomputable def pairs_Of_F (rs0 : List Int) (cs1 : List Int) : Option (List (Int × Int)) := (pairs_Of_T rs0 cs1).run
def pairs_Of_L : List (Nat × LoopAnn) := [(4, { head := [.srow 6 1000006 238 true (.st (.pair Th Th)), .srow 12 1000012 3 true Th, .sv 13 true Th, .sv 14 true Th], xid := 0, out := [.srow 6 1000006 238 true (.st (.pair Th Th))], hasRet := false, res := [] })]
noncomputable def pairs_Of_C : List (Nat × Callee) := [(146, .plain pairs_closings_fun)]
noncomputable def pairs_Of_fun : Fun := ⟨[.sl Tj, .sl Ti], [.row 238 (.st (.pair Th Th))], fun x => pairs_Of_F x.1 x.2.1⟩
theorem pairs_Of_ev (x : Tys.I [.sl Tj, .sl Ti]) : evFun G0 (of_ pairs_Of_C) A0 (ol_ pairs_Of_L) Tryz.f132 [.sl Tj, .sl Ti] [.row 238 (.st (.pair Th Th))] x = pairs_Of_T x.1 x.2.1 := by kernel_rfl
theorem pairs_Of_ok : FunOk Tryz.prog 132 pairs_Of_fun := evFun_ok mixed ctx0 (pc pairs_closings_ok (no_calls)) Tryz.func132 (by kernel_rfl) _ (fun x => congrArg Tr.run (pairs_Of_ev x)) (by kernel_rfl) (by kernel_rfl)
noncomputable def neutral_direction_T (c0 : Int) : Tr Int :=
  .br (c0 == 0) (
    .pure 0) (
    .br (c0 == 1) (
      .pure 1) (
      .br (c0 == 2) (
        .pure 1) (
        .br (c0 == 3) (
          .pure 1) (
          .br (c0 == 6) (
            .pure 1) (
            .pure 13)))))
noncomputable def neutral_direction_F (c0 : Int) : Option Int := (neutral_direction_T c0).run
def neutral_direction_L : List (Nat × LoopAnn) := []
noncomputable def neutral_direction_C : List (Nat × Callee) := []
noncomputable def neutral_direction_fun : Fun := ⟨[Ti], [.v Ti], fun x => neutral_direction_F x.1⟩
theorem neutral_direction_ev (x : Tys.I [Ti]) : evFun G0 (of_ neutral_direction_C) A0 (ol_ neutral_direction_L) Tryz.f137 [Ti] [.v Ti] x = neutral_direction_T x.1 := by kernel_rfl
theorem neutral_direction_ok : FunOk Tryz.prog 137 neutral_direction_fun := evFun_ok mixed ctx0 (no_calls) Tryz.func137 (by kernel_rfl) _ (fun x => congrArg Tr.run (neutral_direction_ev x)) (by kernel_rfl) (by kernel_rfl)
noncomputable def neutral_inside_L3 (embedding1 : Int) (found5 : Int) (t9 : List Int) (t10 : Int) (t11 : Int) : Tr (Lap (Int × Int × List Int × Int × Int) (Sum Int Int)) :=
  .br (decide (t11 < t10)) (
    .bnd (idx t9 t11) fun x_1 =>
    .bnd (neutral_direction_F x_1) fun c_2 =>
    .br (c_2 == embedding1) (
      .pure (.done (.inr c_2))) (
      .br (c_2 != 13) (
        .pure (.next (embedding1, c_2, t9, t10, IntKind.i64.wrap (t11 + 1)))) (
        .pure (.next (embedding1, found5, t9, t10, IntKind.i64.wrap (t11 + 1)))))) (
    .pure (.done (.inl found5)))
noncomputable def neutral_inside_T (cs0 : List Int) (embedding1 : Int) : Tr Int :=
  .alt (loopW (fun s => (neutral_inside_L3 s.1 s.2.1 s.2.2.1 s.2.2.2.1 s.2.2.2.2).run) (embedding1, 13, cs0, (cs0.length : Int), 0)) (fun l_3 =>
    .pure l_3) (fun l_4 =>
    .pure l_4)
noncomputable def neutral_inside_F (cs0 : List Int) (embedding1 : Int) : Option Int := (neutral_inside_T cs0 embedding1).run
def neutral_inside_L : List (Nat × LoopAnn) := [(3, { head := [.sv 1 false Ti, .sv 5 true Ti, .sv 9 false Tf, .sv 10 true Th, .sv 11 true Th], xid := 0, out := [.sv 5 true Ti], hasRet := true, res := [.sv 4 true Ti] })]
noncomputable def neutral_inside_C : List (Nat × Callee) := [(137, .plain neutral_direction_fun)]
noncomputable def neutral_inside_fun : Fun := ⟨[.sl Ti, Ti], [.v Ti], fun x => neutral_inside_F x.1 x.2.1⟩
theorem neutral_inside_ev (x : Tys.I [.sl Ti, Ti]) : evFun G0 (of_ neutral_inside_C) A0 (ol_ neutral_inside_L) Tryz.f133 [.sl Ti, Ti] [.v Ti] x = neutral_inside_T x.1 x.2.1 := by kernel_rfl
theorem neutral_inside_ok : FunOk Tryz.prog 133 neutral_inside_fun := evFun_ok mixed ctx0 (pc neutral_direction_ok (no_calls)) Tryz.func133 (by kernel_rfl) _ (fun x => congrArg Tr.run (neutral_inside_ev x)) (by kernel_rfl) (by kernel_rfl)
noncomputable def neutral_Level_T (level0 : Int) : Tr Int :=
  .br (decide (level0 > 0)) (
    .br ((level0.tmod 2) == 1) (
      .pure 1) (
      .pure 0)) (
    .pure 0)
noncomputable def neutral_Level_F (level0 : Int) : Option Int := (neutral_Level_T level0).run
def neutral_Level_L : List (Nat × LoopAnn) := []
noncomputable def neutral_Level_C : List (Nat × Callee) := []
noncomputable def neutral_Level_fun : Fun := ⟨[Th], [.v Ti], fun x => neutral_Level_F x.1⟩
theorem neutral_Level_ev (x : Tys.I [Th]) : evFun G0 (of_ neutral_Level_C) A0 (ol_ neutral_Level_L) Tryz.f134 [Th] [.v Ti] x = neutral_Level_T x.1 := by kernel_rfl
theorem neutral_Level_ok : FunOk Tryz.prog 134 neutral_Level_fun := evFun_ok mixed ctx0 (no_calls) Tryz.func134 (by kernel_rfl) _ (fun x => congrArg Tr.run (neutral_Level_ev x)) (by kernel_rfl) (by kernel_rfl)
noncomputable def neutral_before_L2 (cs0 : List Int) (sos1 : Int) (i5 : Int) : Tr (Lap (List Int × Int × Int) (Sum Int Int)) :=
  .br (decide (i5 ≥ 0)) (
    .bnd (idx cs0 i5) fun x_1 =>
    .bnd (neutral_direction_F x_1) fun c_2 =>
    .br (c_2 != 13) (
      .pure (.done (.inr c_2))) (
      .pure (.next (cs0, sos1, IntKind.i64.wrap (i5 - 1))))) (
    .pure (.done (.inl sos1)))
noncomputable def neutral_before_T (cs0 : List Int) (sos1 : Int) : Tr Int :=
  .alt (loopW (fun s => (neutral_before_L2 s.1 s.2.1 s.2.2).run) (cs0, sos1, IntKind.i64.wrap ((cs0.length : Int) - 1))) (fun l_3 =>
    .pure l_3) (fun l_4 =>
    .pure l_4)
noncomputable def neutral_before_F (cs0 : List Int) (sos1 : Int) : Option Int := (neutral_before_T cs0 sos1).run
def neutral_before_L : List (Nat × LoopAnn) := [(2, { head := [.sv 0 false Tf, .sv 1 false Ti, .sv 5 true Th], xid := 0, out := [.sv 1 false Ti], hasRet := true, res := [.sv 4 true Ti] })]
noncomputable def neutral_before_C : List (Nat × Callee) := [(137, .plain neutral_direction_fun)]
noncomputable def neutral_before_fun : Fun := ⟨[.sl Ti, Ti], [.v Ti], fun x => neutral_before_F x.1 x.2.1⟩
theorem neutral_before_ev (x : Tys.I [.sl Ti, Ti]) : evFun G0 (of_ neutral_before_C) A0 (ol_ neutral_before_L) Tryz.f135 [.sl Ti, Ti] [.v Ti] x = neutral_before_T x.1 x.2.1 := by kernel_rfl
theorem neutral_before_ok : FunOk Tryz.prog 135 neutral_before_fun := evFun_ok mixed ctx0 (pc neutral_direction_ok (no_calls)) Tryz.func135 (by kernel_rfl) _ (fun x => congrArg Tr.run (neutral_before_ev x)) (by kernel_rfl) (by kernel_rfl)
noncomputable def neutral_turn_L2 (cs0 : List Int) (first1 : List Int) (d3 : Int) (i8 : Int) : Tr (Lap (List Int × List Int × Int × Int) (List Int)) :=
  .br (decide (i8 < (cs0.length : Int))) (
    .bnd (idx first1 i8) fun x_2 =>
    .br (x_2 == 8) (
      .bnd (idx cs0 i8) fun _ =>
      .bnd (idx cs0 i8) fun _ =>
      .pure (.next (cs0.set (Int.toNat i8) d3, first1, d3, IntKind.i64.wrap (i8 + 1)))) (
      .pure (.done cs0))) (
    .pure (.done cs0))
noncomputable def neutral_turn_T (cs0 : List Int) (first1 : List Int) (at2 : Int) (d3 : Int) : Tr (List Int × Unit) :=
  .bnd (idx cs0 at2) fun _ =>
  .bnd (idx cs0 at2) fun _ =>
  .bnd (loopW (fun s => (neutral_turn_L2 s.1 s.2.1 s.2.2.1 s.2.2.2).run) (cs0.set (Int.toNat at2) d3, first1, d3, IntKind.i64.wrap (at2 + 1))) fun l_4 =>
  .pure (l_4, ())
noncomputable def neutral_turn_F (cs0 : List Int) (first1 : List Int) (at2 : Int) (d3 : Int) : Option (List Int × Unit) := (neutral_turn_T cs0 first1 at2 d3).run
def neutral_turn_L : List (Nat × LoopAnn) := [(2, { head := [.slrow 0 156 Ti, .sv 1 false Tf, .sv 3 false Ti, .sv 8 true Th], xid := 0, out := [.slrow 0 156 Ti], hasRet := false, res := [] })]
noncomputable def neutral_turn_C : List (Nat × Callee) := []
noncomputable def neutral_turn_fun : LFun := ⟨156, Ti, [.sl Ti, Th, Ti], [], fun s x => neutral_turn_F s x.1 x.2.1 x.2.2.1⟩
theorem neutral_turn_ev (s : List Int) (x : Tys.I [.sl Ti, Th, Ti]) : evFunL G0 (of_ neutral_turn_C) A0 (ol_ neutral_turn_L) Tryz.f136 156 Ti [.sl Ti, Th, Ti] [] s x = neutral_turn_T s x.1 x.2.1 x.2.2.1 := by kernel_rfl
theorem neutral_turn_ok : LentOk Tryz.prog 136 neutral_turn_fun := evFunL_ok mixed ctx0 (no_calls) Tryz.func136 (by kernel_rfl) rfl _ (fun s x => congrArg Tr.run (neutral_turn_ev s x)) (by kernel_rfl)
noncomputable def neutral_Brackets_L5 (first1 : List Int) (level3 : Int) (sos4 : Int) (out11 : List Int) (t32 : List (Int × Int)) (t33 : Int) (t34 : Int) : Tr (Lap (List Int × Int × Int × List Int × (List (Int × Int)) × Int × Int) (List Int)) :=
  .br (decide (t34 < t33)) (
    .bnd (idx t32 t34) fun x_3 =>
    .bnd (idx ([x_3]) 0) fun x_4 =>
    .bnd (idx ([x_3]) 0) fun x_5 =>
    .bnd (cut out11 (IntKind.i64.wrap (x_4.1 + 1)) x_5.2) fun r_6 =>
    .bnd (neutral_Level_F level3) fun c_7 =>
    .bnd (neutral_inside_F r_6 c_7) fun c_8 =>
    .br (c_8 == 13) (
      .pure (.next (first1, level3, sos4, out11, t32, t33, IntKind.i64.wrap (t34 + 1)))) (
      .bnd (neutral_Level_F level3) fun c_9 =>
      .br (c_8 != c_9) (
        .bnd (idx ([x_3]) 0) fun x_10 =>
        .bnd (cut out11 0 x_10.1) fun r_11 =>
        .bnd (neutral_before_F r_11 sos4) fun c_12 =>
        .bnd (idx ([x_3]) 0) fun x_13 =>
        .bnd (neutral_turn_F out11 first1 x_13.1 c_12) fun c_14 =>
        .bnd (idx ([x_3]) 0) fun x_15 =>
        .bnd (neutral_turn_F c_14.1 first1 x_15.2 c_12) fun c_16 =>
        .pure (.next (first1, level3, sos4, c_16.1, t32, t33, IntKind.i64.wrap (t34 + 1)))) (
        .bnd (idx ([x_3]) 0) fun x_17 =>
        .bnd (neutral_turn_F out11 first1 x_17.1 c_8) fun c_18 =>
        .bnd (idx ([x_3]) 0) fun x_19 =>
        .bnd (neutral_turn_F c_18.1 first1 x_19.2 c_8) fun c_20 =>
        .pure (.next (first1, level3, sos4, c_20.1, t32, t33, IntKind.i64.wrap (t34 + 1)))))) (
    .pure (.done out11))
noncomputable def neutral_Brackets_T (rs0 : List Int) (first1 : List Int) (cs2 : List Int) (level3 : Int) (sos4 : Int) : Tr (List Int) :=
  .bnd (bidic_Class__F cs2) fun c_1 =>
  .br ((rs0.length : Int) != (cs2.length : Int)) (
    .pure c_1) (
    .br ((first1.length : Int) != (cs2.length : Int)) (
      .pure c_1) (
      .bnd (pairs_Of_F rs0 cs2) fun c_2 =>
      .bnd (loopW (fun s => (neutral_Brackets_L5 s.1 s.2.1 s.2.2.1 s.2.2.2.1 s.2.2.2.2.1 s.2.2.2.2.2.1 s.2.2.2.2.2.2).run) (first1, level3, sos4, c_1, c_2, (c_2.length : Int), 0)) fun l_21 =>
      .pure l_21))
noncomputable def neutral_Brackets_F (rs0 : List Int) (first1 : List Int) (cs2 : List Int) (level3 : Int) (sos4 : Int) : Option (List Int) := (neutral_Brackets_T rs0 first1 cs2 level3 sos4).run
def neutral_Brackets_L : List (Nat × LoopAnn) := [(5, { head := [.sv 1 false Tf, .sv 3 false Th, .sv 4 false Ti, .srow 11 1000011 156 true Ti, .srow 32 1000032 238 true (.st (.pair Th Th)), .sv 33 true Th, .sv 34 true Th], xid := 0, out := [.srow 11 1000011 156 true Ti], hasRet := false, res := [] })]
noncomputable def neutral_Brackets_C : List (Nat × Callee) := [(124, .plain bidic_Class__fun), (132, .plain pairs_Of_fun), (134, .plain neutral_Level_fun), (133, .plain neutral_inside_fun), (135, .plain neutral_before_fun), (136, .lent neutral_turn_fun)]
noncomputable def neutral_Brackets_fun : Fun := ⟨[.sl Tj, .sl Ti, .sl Ti, Th, Ti], [.row 156 Ti], fun x => neutral_Brackets_F x.1 x.2.1 x.2.2.1 x.2.2.2.1 x.2.2.2.2.1⟩
theorem neutral_Brackets_ev (x : Tys.I [.sl Tj, .sl Ti, .sl Ti, Th, Ti]) : evFun G0 (of_ neutral_Brackets_C) ⟨[], [], [136], [], [], []⟩ (ol_ neutral_Brackets_L) Tryz.f105 [.sl Tj, .sl Ti, .sl Ti, Th, Ti] [.row 156 Ti] x = neutral_Brackets_T x.1 x.2.1 x.2.2.1 x.2.2.2.1 x.2.2.2.2.1 := by kernel_rfl
theorem neutral_Brackets_ok : FunOk Tryz.prog 105 neutral_Brackets_fun := evFun_ok mixed ctx0 (pc bidic_Class__ok (pc pairs_Of_ok (pc neutral_Level_ok (pc neutral_inside_ok (pc neutral_before_ok (cons_calls (fb := .lent neutral_turn_fun) neutral_turn_ok (fun h => by rfl) (no_calls))))))) Tryz.func105 (by kernel_rfl) _ (fun x => congrArg Tr.run (neutral_Brackets_ev x)) (by kernel_rfl) (by kernel_rfl)
noncomputable def neutral_fill_L4 (cs0 : List Int) (d8 : Int) (t16 : Int) (t17 : Int) : Tr (Lap (List Int × Int × Int × Int) (List Int)) :=
  .br (decide (t17 < t16)) (
    .bnd (idx cs0 t17) fun _ =>
    .bnd (idx cs0 t17) fun _ =>
    .pure (.next (cs0.set (Int.toNat t17) d8, d8, t16, IntKind.i64.wrap (t17 + 1)))) (
    .pure (.done cs0))
noncomputable def neutral_fill_T (cs0 : List Int) (last1 : Int) (next2 : Int) (embedding3 : Int) : Tr (List Int × Unit) :=
  .br (last1 == next2) (
    .bnd (loopW (fun s => (neutral_fill_L4 s.1 s.2.1 s.2.2.1 s.2.2.2).run) (cs0, last1, (cs0.length : Int), 0)) fun l_2 =>
    .pure (l_2, ())) (
    .bnd (loopW (fun s => (neutral_fill_L4 s.1 s.2.1 s.2.2.1 s.2.2.2).run) (cs0, embedding3, (cs0.length : Int), 0)) fun l_3 =>
    .pure (l_3, ()))
noncomputable def neutral_fill_F (cs0 : List Int) (last1 : Int) (next2 : Int) (embedding3 : Int) : Option (List Int × Unit) := (neutral_fill_T cs0 last1 next2 embedding3).run
def neutral_fill_L : List (Nat × LoopAnn) := [(4, { head := [.slrow 0 156 Ti, .sv 8 false Ti, .sv 16 true Th, .sv 17 true Th], xid := 0, out := [.slrow 0 156 Ti], hasRet := false, res := [] })]
noncomputable def neutral_fill_C : List (Nat × Callee) := []
noncomputable def neutral_fill_fun : LFun := ⟨156, Ti, [Ti, Ti, Ti], [], fun s x => neutral_fill_F s x.1 x.2.1 x.2.2.1⟩
theorem neutral_fill_ev (s : List Int) (x : Tys.I [Ti, Ti, Ti]) : evFunL G0 (of_ neutral_fill_C) A0 (ol_ neutral_fill_L) Tryz.f138 156 Ti [Ti, Ti, Ti] [] s x = neutral_fill_T s x.1 x.2.1 x.2.2.1 := by kernel_rfl
theorem neutral_fill_ok : LentOk Tryz.prog 138 neutral_fill_fun := evFunL_ok mixed ctx0 (no_calls) Tryz.func138 (by kernel_rfl) rfl _ (fun s x => congrArg Tr.run (neutral_fill_ev s x)) (by kernel_rfl)
noncomputable def neutral_Rest_L6 (cs0 : List Int) (level1 : Int) (eos3 : Int) (out9 : List Int) (last10 : Int) (from11 : Int) (to12 : Int) : Tr (Lap (List Int × Int × Int × List Int × Int × Int × Int) (List Int × Int × Int × List Int × Int × Int × Int)) :=
  .br (decide (to12 < (cs0.length : Int))) (
    .bnd (idx cs0 to12) fun x_2 =>
    .bnd (neutral_direction_F x_2) fun c_3 =>
    .br (c_3 == 13) (
      .pure (.next (cs0, level1, eos3, out9, last10, from11, IntKind.i64.wrap (to12 + 1)))) (
      .pure (.done (cs0, level1, eos3, out9, last10, from11, to12)))) (
    .pure (.done (cs0, level1, eos3, out9, last10, from11, to12)))
noncomputable def neutral_Rest_L4 (cs0 : List Int) (level1 : Int) (eos3 : Int) (out9 : List Int) (last10 : Int) (from11 : Int) : Tr (Lap (List Int × Int × Int × List Int × Int × Int) (List Int)) :=
  .br (decide (from11 < (cs0.length : Int))) (
    .bnd (loopW (fun s => (neutral_Rest_L6 s.1 s.2.1 s.2.2.1 s.2.2.2.1 s.2.2.2.2.1 s.2.2.2.2.2.1 s.2.2.2.2.2.2).run) (cs0, level1, eos3, out9, last10, from11, from11)) fun l_4 =>
    .br (decide (l_4.2.2.2.2.2.2 < (l_4.1.length : Int))) (
      .bnd (idx l_4.1 l_4.2.2.2.2.2.2) fun x_5 =>
      .bnd (neutral_direction_F x_5) fun c_6 =>
      .bnd (cut l_4.2.2.2.1 l_4.2.2.2.2.2.1 l_4.2.2.2.2.2.2) fun r_7 =>
      .bnd (neutral_Level_F l_4.2.1) fun c_8 =>
      .bnd (neutral_fill_F ((l_4.2.2.2.1.drop ((l_4.2.2.2.2.2.1).toNat)).take r_7.length) l_4.2.2.2.2.1 c_6 c_8) fun c_9 =>
      .pure (.next (l_4.1, l_4.2.1, l_4.2.2.1, splice' l_4.2.2.2.1 ((l_4.2.2.2.2.2.1).toNat) r_7.length c_9.1, c_6, IntKind.i64.wrap (l_4.2.2.2.2.2.2 + 1)))) (
      .bnd (cut l_4.2.2.2.1 l_4.2.2.2.2.2.1 l_4.2.2.2.2.2.2) fun r_10 =>
      .bnd (neutral_Level_F l_4.2.1) fun c_11 =>
      .bnd (neutral_fill_F ((l_4.2.2.2.1.drop ((l_4.2.2.2.2.2.1).toNat)).take r_10.length) l_4.2.2.2.2.1 l_4.2.2.1 c_11) fun c_12 =>
      .pure (.next (l_4.1, l_4.2.1, l_4.2.2.1, splice' l_4.2.2.2.1 ((l_4.2.2.2.2.2.1).toNat) r_10.length c_12.1, l_4.2.2.1, IntKind.i64.wrap (l_4.2.2.2.2.2.2 + 1))))) (
    .pure (.done out9))
noncomputable def neutral_Rest_T (cs0 : List Int) (level1 : Int) (sos2 : Int) (eos3 : Int) : Tr (List Int) :=
  .bnd (bidic_Class__F cs0) fun c_1 =>
  .bnd (loopW (fun s => (neutral_Rest_L4 s.1 s.2.1 s.2.2.1 s.2.2.2.1 s.2.2.2.2.1 s.2.2.2.2.2).run) (cs0, level1, eos3, c_1, sos2, 0)) fun l_13 =>
  .pure l_13
noncomputable def neutral_Rest_F (cs0 : List Int) (level1 : Int) (sos2 : Int) (eos3 : Int) : Option (List Int) := (neutral_Rest_T cs0 level1 sos2 eos3).run
def neutral_Rest_L : List (Nat × LoopAnn) := [(6, { head := [.sv 0 false Tf, .sv 1 false Th, .sv 3 false Ti, .srow 9 1000009 156 true Ti, .sv 10 false Ti, .sv 11 true Th, .sv 12 true Th], xid := 2, out := [.sv 0 false Tf, .sv 1 false Th, .sv 3 false Ti, .srow 9 1000009 156 true Ti, .sv 10 false Ti, .sv 11 true Th, .sv 12 true Th], hasRet := false, res := [] }), (4, { head := [.sv 0 false Tf, .sv 1 false Th, .sv 3 false Ti, .srow 9 1000009 156 true Ti, .sv 10 false Ti, .sv 11 true Th], xid := 0, out := [.srow 9 1000009 156 true Ti], hasRet := false, res := [] })]
noncomputable def neutral_Rest_C : List (Nat × Callee) := [(124, .plain bidic_Class__fun), (137, .plain neutral_direction_fun), (134, .plain neutral_Level_fun), (138, .lent neutral_fill_fun)]
noncomputable def neutral_Rest_fun : Fun := ⟨[.sl Ti, Th, Ti, Ti], [.row 156 Ti], fun x => neutral_Rest_F x.1 x.2.1 x.2.2.1 x.2.2.2.1⟩
theorem neutral_Rest_ev (x : Tys.I [.sl Ti, Th, Ti, Ti]) : evFun G0 (of_ neutral_Rest_C) ⟨[], [], [138], [], [], []⟩ (ol_ neutral_Rest_L) Tryz.f106 [.sl Ti, Th, Ti, Ti] [.row 156 Ti] x = neutral_Rest_T x.1 x.2.1 x.2.2.1 x.2.2.2.1 := by kernel_rfl
theorem neutral_Rest_ok : FunOk Tryz.prog 106 neutral_Rest_fun := evFun_ok mixed ctx0 (pc bidic_Class__ok (pc neutral_direction_ok (pc neutral_Level_ok (cons_calls (fb := .lent neutral_fill_fun) neutral_fill_ok (fun h => by rfl) (no_calls))))) Tryz.func106 (by kernel_rfl) _ (fun x => congrArg Tr.run (neutral_Rest_ev x)) (by kernel_rfl) (by kernel_rfl)
noncomputable def levels_resolve_L4 (rs0 : List Int) (classes1 : List Int) (s5 : List Int × Int × Int × Int) (runes7 : List Int) (first8 : List Int) (t21 : List Int) (t22 : Int) (t23 : Int) : Tr (Lap (List Int × List Int × (List Int × Int × Int × Int) × List Int × List Int × List Int × Int × Int) ((List Int × Int × Int × Int) × List Int × List Int)) :=
  .br (decide (t23 < t22)) (
    .bnd (idx t21 t23) fun x_3 =>
    .bnd (idx rs0 x_3) fun x_4 =>
    .bnd (idx classes1 x_3) fun x_5 =>
    .bnd (idx runes7 t23) fun x_6 =>
    .bnd (idx first8 t23) fun x_7 =>
    .pure (.next (rs0, classes1, s5, runes7.set (Int.toNat t23) x_4, first8.set (Int.toNat t23) x_5, t21, t22, IntKind.i64.wrap (t23 + 1)))) (
    .pure (.done (s5, runes7, first8)))
noncomputable def levels_resolve_T (rs0 : List Int) (classes1 : List Int) (s2 : List Int × Int × Int × Int) : Tr (List Int) :=
  .bnd (mk 35184372088832 0 (s2.1.length : Int)) fun r_1 =>
  .bnd (mk 140737488355328 0 (s2.1.length : Int)) fun r_2 =>
  .bnd (loopW (fun s => (levels_resolve_L4 s.1 s.2.1 s.2.2.1 s.2.2.2.1 s.2.2.2.2.1 s.2.2.2.2.2.1 s.2.2.2.2.2.2.1 s.2.2.2.2.2.2.2).run) (rs0, classes1, s2, r_1, r_2, s2.1, (s2.1.length : Int), 0)) fun l_8 =>
  .bnd (idx ([l_8.1]) 0) fun x_9 =>
  .bnd (weak_Resolve_F l_8.2.2 x_9.2.2.1) fun c_10 =>
  .bnd (idx ([l_8.1]) 0) fun x_11 =>
  .bnd (idx ([l_8.1]) 0) fun x_12 =>
  .bnd (neutral_Brackets_F l_8.2.1 l_8.2.2 c_10 x_11.2.1 x_12.2.2.1) fun c_13 =>
  .bnd (idx ([l_8.1]) 0) fun x_14 =>
  .bnd (idx ([l_8.1]) 0) fun x_15 =>
  .bnd (idx ([l_8.1]) 0) fun x_16 =>
  .bnd (neutral_Rest_F c_13 x_14.2.1 x_15.2.2.1 x_16.2.2.2) fun c_17 =>
  .pure c_17
noncomputable def levels_resolve_F (rs0 : List Int) (classes1 : List Int) (s2 : List Int × Int × Int × Int) : Option (List Int) := (levels_resolve_T rs0 classes1 s2).run
def levels_resolve_L : List (Nat × LoopAnn) := [(4, { head := [.sv 0 false Tg, .sv 1 false Tf, .sbox 5 1000005 163 false Ta, .srow 7 1000007 21 true Tj, .srow 8 1000008 156 true Ti, .sv 21 false Te, .sv 22 true Th, .sv 23 true Th], xid := 0, out := [.sbox 5 1000005 163 false Ta, .srow 7 1000007 21 true Tj, .srow 8 1000008 156 true Ti], hasRet := false, res := [] })]
noncomputable def levels_resolve_C : List (Nat × Callee) := [(104, .plain weak_Resolve_fun), (105, .plain neutral_Brackets_fun), (106, .plain neutral_Rest_fun)]
noncomputable def levels_resolve_fun : Fun := ⟨[.sl Tj, .sl Ti, .st (.pair Te (.pair Th (.pair Ti Ti)))], [.row 156 Ti], fun x => levels_resolve_F x.1 x.2.1 x.2.2.1⟩
theorem levels_resolve_ev (x : Tys.I [.sl Tj, .sl Ti, .st (.pair Te (.pair Th (.pair Ti Ti)))]) : evFun G0 (of_ levels_resolve_C) A0 (ol_ levels_resolve_L) Tryz.f66 [.sl Tj, .sl Ti, .st (.pair Te (.pair Th (.pair Ti Ti)))] [.row 156 Ti] x = levels_resolve_T x.1 x.2.1 x.2.2.1 := by kernel_rfl
theorem levels_resolve_ok : FunOk Tryz.prog 66 levels_resolve_fun := evFun_ok mixed ctx0 (pc weak_Resolve_ok (pc neutral_Brackets_ok (pc neutral_Rest_ok (no_calls)))) Tryz.func66 (by kernel_rfl) _ (fun x => congrArg Tr.run (levels_resolve_ev x)) (by kernel_rfl) (by kernel_rfl)
noncomputable def implicit_aboveEven_T (c0 : Int) : Tr Int :=
  .br (c0 == 1) (
    .pure 1) (
    .br (c0 == 6) (
      .pure 2) (
      .br (c0 == 3) (
        .pure 2) (
        .pure 0)))
noncomputable def implicit_aboveEven_F (c0 : Int) : Option Int := (implicit_aboveEven_T c0).run
def implicit_aboveEven_L : List (Nat × LoopAnn) := []
noncomputable def implicit_aboveEven_C : List (Nat × Callee) := []
noncomputable def implicit_aboveEven_fun : Fun := ⟨[Ti], [.v Th], fun x => implicit_aboveEven_F x.1⟩
theorem implicit_aboveEven_ev (x : Tys.I [Ti]) : evFun G0 (of_ implicit_aboveEven_C) A0 (ol_ implicit_aboveEven_L) Tryz.f107 [Ti] [.v Th] x = implicit_aboveEven_T x.1 := by kernel_rfl
theorem implicit_aboveEven_ok : FunOk Tryz.prog 107 implicit_aboveEven_fun := evFun_ok mixed ctx0 (no_calls) Tryz.func107 (by kernel_rfl) _ (fun x => congrArg Tr.run (implicit_aboveEven_ev x)) (by kernel_rfl) (by kernel_rfl)
noncomputable def implicit_aboveOdd_T (c0 : Int) : Tr Int :=
  .br (c0 == 0) (
    .pure 1) (
    .br (c0 == 6) (
      .pure 1) (
      .br (c0 == 3) (
        .pure 1) (
        .pure 0)))
noncomputable def implicit_aboveOdd_F (c0 : Int) : Option Int := (implicit_aboveOdd_T c0).run
def implicit_aboveOdd_L : List (Nat × LoopAnn) := []
noncomputable def implicit_aboveOdd_C : List (Nat × Callee) := []
noncomputable def implicit_aboveOdd_fun : Fun := ⟨[Ti], [.v Th], fun x => implicit_aboveOdd_F x.1⟩
theorem implicit_aboveOdd_ev (x : Tys.I [Ti]) : evFun G0 (of_ implicit_aboveOdd_C) A0 (ol_ implicit_aboveOdd_L) Tryz.f108 [Ti] [.v Th] x = implicit_aboveOdd_T x.1 := by kernel_rfl
theorem implicit_aboveOdd_ok : FunOk Tryz.prog 108 implicit_aboveOdd_fun := evFun_ok mixed ctx0 (no_calls) Tryz.func108 (by kernel_rfl) _ (fun x => congrArg Tr.run (implicit_aboveOdd_ev x)) (by kernel_rfl) (by kernel_rfl)
noncomputable def implicit_Level_T (c0 : Int) (level1 : Int) : Tr Int :=
  .br ((level1.tmod 2) == 0) (
    .bnd (implicit_aboveEven_F c0) fun c_1 =>
    .pure (IntKind.i64.wrap (level1 + c_1))) (
    .bnd (implicit_aboveOdd_F c0) fun c_2 =>
    .pure (IntKind.i64.wrap (level1 + c_2)))
noncomputable def implicit_Level_F (c0 : Int) (level1 : Int) : Option Int := (implicit_Level_T c0 level1).run
def implicit_Level_L : List (Nat × LoopAnn) := []
noncomputable def implicit_Level_C : List (Nat × Callee) := [(107, .plain implicit_aboveEven_fun), (108, .plain implicit_aboveOdd_fun)]
noncomputable def implicit_Level_fun : Fun := ⟨[Ti, Th], [.v Th], fun x => implicit_Level_F x.1 x.2.1⟩
theorem implicit_Level_ev (x : Tys.I [Ti, Th]) : evFun G0 (of_ implicit_Level_C) A0 (ol_ implicit_Level_L) Tryz.f67 [Ti, Th] [.v Th] x = implicit_Level_T x.1 x.2.1 := by kernel_rfl
theorem implicit_Level_ok : FunOk Tryz.prog 67 implicit_Level_fun := evFun_ok mixed ctx0 (pc implicit_aboveEven_ok (pc implicit_aboveOdd_ok (no_calls))) Tryz.func67 (by kernel_rfl) _ (fun x => congrArg Tr.run (implicit_Level_ev x)) (by kernel_rfl) (by kernel_rfl)
noncomputable def levels_Paragraph_L8 (rs0 : List Int) (cs1 : List Int) (levels7 : List Int) (classes8 : List Int) (s10 : List Int × Int × Int × Int) (t28 : List (List Int × Int × Int × Int)) (t29 : Int) (t30 : Int) (t37 : List Int) (t38 : Int) (t39 : Int) : Tr (Lap (List Int × List Int × List Int × List Int × (List Int × Int × Int × Int) × (List (List Int × Int × Int × Int)) × Int × Int × List Int × Int × Int) (List Int × List Int × List Int × List Int × (List (List Int × Int × Int × Int)) × Int × Int)) :=
  .br (decide (t39 < t38)) (
    .bnd (idx t37 t39) fun x_6 =>
    .bnd (idx ([s10]) 0) fun x_7 =>
    .bnd (idx x_7.1 t39) fun x_8 =>
    .bnd (idx cs1 x_8) fun x_9 =>
    .br (x_9 != 10) (
      .bnd (idx ([s10]) 0) fun x_10 =>
      .bnd (implicit_Level_F x_6 x_10.2.1) fun c_11 =>
      .bnd (idx levels7 x_8) fun x_12 =>
      .pure (.next (rs0, cs1, levels7.set (Int.toNat x_8) c_11, classes8, s10, t28, t29, t30, t37, t38, IntKind.i64.wrap (t39 + 1)))) (
      .pure (.next (rs0, cs1, levels7, classes8, s10, t28, t29, t30, t37, t38, IntKind.i64.wrap (t39 + 1))))) (
    .pure (.done (rs0, cs1, levels7, classes8, t28, t29, t30)))
noncomputable def levels_Paragraph_L5 (rs0 : List Int) (cs1 : List Int) (levels7 : List Int) (classes8 : List Int) (t28 : List (List Int × Int × Int × Int)) (t29 : Int) (t30 : Int) : Tr (Lap (List Int × List Int × List Int × List Int × (List (List Int × Int × Int × Int)) × Int × Int) (List Int)) :=
  .br (decide (t30 < t29)) (
    .bnd (idx t28 t30) fun x_3 =>
    .bnd (idx ([x_3]) 0) fun x_4 =>
    .bnd (levels_resolve_F rs0 classes8 x_4) fun c_5 =>
    .bnd (loopW (fun s => (levels_Paragraph_L8 s.1 s.2.1 s.2.2.1 s.2.2.2.1 s.2.2.2.2.1 s.2.2.2.2.2.1 s.2.2.2.2.2.2.1 s.2.2.2.2.2.2.2.1 s.2.2.2.2.2.2.2.2.1 s.2.2.2.2.2.2.2.2.2.1 s.2.2.2.2.2.2.2.2.2.2).run) (rs0, cs1, levels7, classes8, x_3, t28, t29, t30, c_5, (c_5.length : Int), 0)) fun l_13 =>
    .pure (.next (l_13.1, l_13.2.1, l_13.2.2.1, l_13.2.2.2.1, l_13.2.2.2.2.1, l_13.2.2.2.2.2.1, IntKind.i64.wrap (l_13.2.2.2.2.2.2 + 1)))) (
    .pure (.done levels7))
noncomputable def levels_Paragraph_T (rs0 : List Int) (cs1 : List Int) (level2 : Int) : Tr (List Int) :=
  .br ((rs0.length : Int) != (cs1.length : Int)) (
    .pure ([])) (
    .bnd (explicit_Resolve_F cs1 level2) fun c_1 =>
    .bnd (seqs_Of_F c_1.1 cs1 level2) fun c_2 =>
    .bnd (loopW (fun s => (levels_Paragraph_L5 s.1 s.2.1 s.2.2.1 s.2.2.2.1 s.2.2.2.2.1 s.2.2.2.2.2.1 s.2.2.2.2.2.2).run) (rs0, cs1, c_1.1, c_1.2, c_2, (c_2.length : Int), 0)) fun l_14 =>
    .pure l_14)
noncomputable def levels_Paragraph_F (rs0 : List Int) (cs1 : List Int) (level2 : Int) : Option (List Int) := (levels_Paragraph_T rs0 cs1 level2).run
def levels_Paragraph_L : List (Nat × LoopAnn) := [(8, { head := [.sv 0 false Tg, .sv 1 false Tf, .srow 7 1000007 3 true Th, .srow 8 1000008 156 true Ti, .sbox 10 1000010 163 true Ta, .srow 28 1000028 163 true Ta, .sv 29 true Th, .sv 30 true Th, .srow 37 1000037 156 true Ti, .sv 38 true Th, .sv 39 true Th], xid := 2, out := [.sv 0 false Tg, .sv 1 false Tf, .srow 7 1000007 3 true Th, .srow 8 1000008 156 true Ti, .srow 28 1000028 163 true Ta, .sv 29 true Th, .sv 30 true Th], hasRet := false, res := [] }), (5, { head := [.sv 0 false Tg, .sv 1 false Tf, .srow 7 1000007 3 true Th, .srow 8 1000008 156 true Ti, .srow 28 1000028 163 true Ta, .sv 29 true Th, .sv 30 true Th], xid := 0, out := [.srow 7 1000007 3 true Th], hasRet := false, res := [] })]
noncomputable def levels_Paragraph_C : List (Nat × Callee) := [(64, .plain explicit_Resolve_fun), (65, .plain seqs_Of_fun), (66, .plain levels_resolve_fun), (67, .plain implicit_Level_fun)]
noncomputable def levels_Paragraph_fun : Fun := ⟨[.sl Tj, .sl Ti, Th], [.row 3 Th], fun x => levels_Paragraph_F x.1 x.2.1 x.2.2.1⟩
theorem levels_Paragraph_ev (x : Tys.I [.sl Tj, .sl Ti, Th]) : evFun G0 (of_ levels_Paragraph_C) A0 (ol_ levels_Paragraph_L) Tryz.f40 [.sl Tj, .sl Ti, Th] [.row 3 Th] x = levels_Paragraph_T x.1 x.2.1 x.2.2.1 := by kernel_rfl
theorem levels_Paragraph_ok : FunOk Tryz.prog 40 levels_Paragraph_fun := evFun_ok mixed ctx0 (pc explicit_Resolve_ok (pc seqs_Of_ok (pc levels_resolve_ok (pc implicit_Level_ok (no_calls))))) Tryz.func40 (by kernel_rfl) _ (fun x => congrArg Tr.run (levels_Paragraph_ev x)) (by kernel_rfl) (by kernel_rfl)
end Go.Proofs.YtnldcpanpojeiaaGreatDoor
