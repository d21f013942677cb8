/-
  The plain readings of the functions of this seat, by program: the second half.
-/
import Derived.Test.YtcbmacpdiiehjaaVwR
namespace Go.Proofs.Ytcbmacpdiiehjaa
set_option maxRecDepth 100000
set_option linter.unusedVariables false

/-! ### boustrophedon/view.Text -/
noncomputable def view_Text_L3 (rs3 : List Int) (t6 : List (List Int × Int × Int)) (t7 : Int) (t8 : Int) : Tr (Lap (List Int × (List (List Int × Int × Int)) × Int × Int) (List Int)) :=
  .br (decide (t8 < t7)) (
    .bnd (idx t6 t8) fun x_1 =>
    .bnd (idx ([x_1]) 0) fun x_2 =>
    .bnd (app 35184372088832 rs3 x_2.1) fun r_3 =>
    .pure (.next (r_3, t6, t7, IntKind.i64.wrap (t8 + 1)))) (
    .pure (.done rs3))
noncomputable def view_Text_T (cells0 : List (List Int × Int × Int)) : Tr (List Int) :=
  .bnd (loopW (fun s => (view_Text_L3 s.1 s.2.1 s.2.2.1 s.2.2.2).run) ([], cells0, (cells0.length : Int), 0)) fun l_4 =>
  .pure l_4
noncomputable def view_Text_F (cells0 : List (List Int × Int × Int)) : Option (List Int) := (view_Text_T cells0).run
def view_Text_L : List (Nat × LoopAnn) := [(3, { head := [.srow 3 1000003 21 true (.int .i32), .sv 6 false (.sl (.st (.pair (.sl (.int .i32)) (.pair (.int .i64) (.int .i64))))), .sv 7 true (.int .i64), .sv 8 true (.int .i64)], xid := 0, out := [.srow 3 1000003 21 true (.int .i32)], hasRet := false, res := [] })]
noncomputable def view_Text_C : List (Nat × Callee) := []
noncomputable def view_Text_fun : Fun := ⟨[.sl (.st (.pair (.sl (.int .i32)) (.pair (.int .i64) (.int .i64))))], [.row 21 (.int .i32)], fun x => view_Text_F x.1⟩
theorem view_Text_ev (x : Tys.I [.sl (.st (.pair (.sl (.int .i32)) (.pair (.int .i64) (.int .i64))))]) : evFun G0 (fun f => olook f view_Text_C) ⟨[], [], [], [], [], []⟩ (fun i => olook i view_Text_L) Try.f10 [.sl (.st (.pair (.sl (.int .i32)) (.pair (.int .i64) (.int .i64))))] [.row 21 (.int .i32)] x = view_Text_T x.1 := by kernel_rfl
theorem view_Text_ok : FunOk Try.prog 10 view_Text_fun := evFun_ok mixed ctx0 (no_calls) Try.func10 (by kernel_rfl) _ (fun x => congrArg Tr.run (view_Text_ev x)) (by kernel_rfl) (by kernel_rfl)
/-! ### boustrophedon/boustrophedonlaw36.awake -/
noncomputable def law36_awake_T : Tr Bool :=
  .bnd (view_Row_F ([97, 19968, 98]) ([1, 2, 1]) 0 4) fun c_1 =>
  .bnd (view_Row_F ([97, 19968, 98]) ([1, 2, 1]) 2 3) fun c_2 =>
  .bnd (view_Row_F ([97, 19968, 98]) ([1, 2, 1]) (-1) 2) fun c_3 =>
  .br c_1.2.isNone (
    .br c_2.2.isNone (
      .br c_3.2.isNone (
        .br ((c_1.1.length : Int) == 4) (
          .bnd (idx c_1.1 2) fun x_4 =>
          .br (x_4.2.1 == 1) (
            .bnd (idx c_1.1 2) fun x_5 =>
            .br (x_5.2.2 == 1) (
              .bnd (view_Text_F c_1.1) fun c_6 =>
              .br ((runesBytes c_6).toList == (runesBytes ([97, 19968, 98])).toList) (
                .bnd (view_Text_F c_2.1) fun c_7 =>
                .br ((runesBytes c_7).toList == (ByteArray.mk #[32, 98, 32]).toList) (
                  .bnd (view_Text_F c_3.1) fun c_8 =>
                  .pure ((runesBytes c_8).toList == (ByteArray.mk #[32, 97]).toList)) (
                  .pure false)) (
                .pure false)) (
              .pure false)) (
            .pure false)) (
          .pure false)) (
        .pure false)) (
      .pure false)) (
    .pure false)
noncomputable def law36_awake_F : Option Bool := (law36_awake_T).run
def law36_awake_L : List (Nat × LoopAnn) := []
noncomputable def law36_awake_C : List (Nat × Callee) := [(7, .plain view_Row_fun), (10, .plain view_Text_fun)]
noncomputable def law36_awake_fun : Fun := ⟨[], [.v .bool], fun _ => law36_awake_F⟩
theorem law36_awake_ev (x : Tys.I []) : evFun G0 (fun f => olook f law36_awake_C) ⟨[], [(5, [0, 1, 2, 3, 4, 5, 6, 7, 8, 9, 10, 11, 12, 13, 14, 15, 16, 17, 18, 19, 20, 21, 22, 23, 24, 25, 26, 27, 28, 29, 30, 33, 34, 31, 32, 35, 36, 37, 38, 39, 40, 41, 42, 43, 44, 45, 46, 47, 48, 49])], [], [], [], []⟩ (fun i => olook i law36_awake_L) Try.f5 [] [.v .bool] x = law36_awake_T := by kernel_rfl
theorem law36_awake_ok : FunOk Try.prog 5 law36_awake_fun := evFun_ok mixed ctx0 (pc view_Row_ok (pc view_Text_ok (no_calls))) Try.func5 (by kernel_rfl) _ (fun x => congrArg Tr.run (law36_awake_ev x)) (by kernel_rfl) (by kernel_rfl)
/-! ### boustrophedon/boustrophedonlaw22.Widths -/
noncomputable def law22_Widths_L3 (ns0 : List Int) (out3 : List Int) (k4 : Int) : Tr (Lap (List Int × List Int × Int) (List Int)) :=
  .br (decide (k4 < (ns0.length : Int))) (
    .bnd (idx ns0 k4) fun x_1 =>
    .bnd (app 17592186044416 out3 ([IntKind.i64.wrap (x_1.tmod 3)])) fun r_2 =>
    .pure (.next (ns0, r_2, IntKind.i64.wrap (k4 + 1)))) (
    .pure (.done out3))
noncomputable def law22_Widths_T (ns0 : List Int) : Tr (List Int) :=
  .bnd (loopW (fun s => (law22_Widths_L3 s.1 s.2.1 s.2.2).run) (ns0, [], 0)) fun l_3 =>
  .pure l_3
noncomputable def law22_Widths_F (ns0 : List Int) : Option (List Int) := (law22_Widths_T ns0).run
def law22_Widths_L : List (Nat × LoopAnn) := [(3, { head := [.sv 0 false (.sl (.int .u8)), .srow 3 1000003 3 true (.int .i64), .sv 4 true (.int .i64)], xid := 0, out := [.srow 3 1000003 3 true (.int .i64)], hasRet := false, res := [] })]
noncomputable def law22_Widths_C : List (Nat × Callee) := []
noncomputable def law22_Widths_fun : Fun := ⟨[.sl (.int .u8)], [.row 3 (.int .i64)], fun x => law22_Widths_F x.1⟩
theorem law22_Widths_ev (x : Tys.I [.sl (.int .u8)]) : evFun G0 (fun f => olook f law22_Widths_C) ⟨[], [], [], [], [], []⟩ (fun i => olook i law22_Widths_L) Try.f11 [.sl (.int .u8)] [.row 3 (.int .i64)] x = law22_Widths_T x.1 := by kernel_rfl
theorem law22_Widths_ok : FunOk Try.prog 11 law22_Widths_fun := evFun_ok mixed ctx0 (no_calls) Try.func11 (by kernel_rfl) _ (fun x => congrArg Tr.run (law22_Widths_ev x)) (by kernel_rfl) (by kernel_rfl)
/-! ### boustrophedon/boustrophedonlaw36.Line -/
noncomputable def law36_Line_L4 (ns0 : List Int) (ws1 : List Int) (n6 : Int) (out7 : List Int) (k8 : Int) : Tr (Lap (List Int × List Int × Int × List Int × Int) (List Int × Int × List Int)) :=
  .br (decide (k8 < n6)) (
    .bnd (idx ns0 k8) fun x_1 =>
    .bnd (app 35184372088832 out7 ([IntKind.i32.wrap (IntKind.i64.wrap (97 + ((IntKind.i64.wrap x_1).tmod 26)))])) fun r_2 =>
    .pure (.next (ns0, ws1, n6, r_2, IntKind.i64.wrap (k8 + 1)))) (
    .pure (.done (ws1, n6, out7)))
noncomputable def law36_Line_T (ns0 : List Int) (ws1 : List Int) : Tr (List Int × List Int) :=
  .bnd (loopW (fun s => (law36_Line_L4 s.1 s.2.1 s.2.2.1 s.2.2.2.1 s.2.2.2.2).run) (ns0, ws1, if (ws1.length : Int) < (ns0.length : Int) then (ws1.length : Int) else (ns0.length : Int), [], 0)) fun l_3 =>
  .bnd (cut l_3.1 0 l_3.2.1) fun r_4 =>
  .bnd (law22_Widths_F r_4) fun c_5 =>
  .pure (l_3.2.2, c_5)
noncomputable def law36_Line_F (ns0 : List Int) (ws1 : List Int) : Option (List Int × List Int) := (law36_Line_T ns0 ws1).run
def law36_Line_L : List (Nat × LoopAnn) := [(4, { head := [.sv 0 false (.sl (.int .u8)), .sv 1 false (.sl (.int .u8)), .sv 6 true (.int .i64), .srow 7 1000007 21 true (.int .i32), .sv 8 true (.int .i64)], xid := 0, out := [.sv 1 false (.sl (.int .u8)), .sv 6 true (.int .i64), .srow 7 1000007 21 true (.int .i32)], hasRet := false, res := [] })]
noncomputable def law36_Line_C : List (Nat × Callee) := [(11, .plain law22_Widths_fun)]
noncomputable def law36_Line_fun : Fun := ⟨[.sl (.int .u8), .sl (.int .u8)], [.row 21 (.int .i32), .row 3 (.int .i64)], fun x => law36_Line_F x.1 x.2.1⟩
theorem law36_Line_ev (x : Tys.I [.sl (.int .u8), .sl (.int .u8)]) : evFun G0 (fun f => olook f law36_Line_C) ⟨[], [], [], [], [], []⟩ (fun i => olook i law36_Line_L) Try.f6 [.sl (.int .u8), .sl (.int .u8)] [.row 21 (.int .i32), .row 3 (.int .i64)] x = law36_Line_T x.1 x.2.1 := by kernel_rfl
theorem law36_Line_ok : FunOk Try.prog 6 law36_Line_fun := evFun_ok mixed ctx0 (pc law22_Widths_ok (no_calls)) Try.func6 (by kernel_rfl) _ (fun x => congrArg Tr.run (law36_Line_ev x)) (by kernel_rfl) (by kernel_rfl)
/-! ### boustrophedon/boustrophedonlaw36.at -/
noncomputable def law36_at_L3 (cell1 : Int) (n6 : Int) (t9 : List Int) (t10 : Int) (t11 : Int) : Tr (Lap (Int × Int × List Int × Int × Int) (Sum Unit (Int × Int))) :=
  .br (decide (t11 < t10)) (
    .bnd (idx t9 t11) fun x_1 =>
    .br (decide (cell1 ≥ n6)) (
      .br (decide (cell1 < (IntKind.i64.wrap (n6 + x_1)))) (
        .pure (.done (.inr (t11, IntKind.i64.wrap (cell1 - n6))))) (
        .pure (.next (cell1, IntKind.i64.wrap (n6 + x_1), t9, t10, IntKind.i64.wrap (t11 + 1))))) (
      .pure (.next (cell1, IntKind.i64.wrap (n6 + x_1), t9, t10, IntKind.i64.wrap (t11 + 1))))) (
    .pure (.done (.inl ())))
noncomputable def law36_at_T (widths0 : List Int) (cell1 : Int) : Tr (Int × Int) :=
  .alt (loopW (fun s => (law36_at_L3 s.1 s.2.1 s.2.2.1 s.2.2.2.1 s.2.2.2.2).run) (cell1, 0, widths0, (widths0.length : Int), 0)) (fun l_2 =>
    .pure ((-1), 0)) (fun l_3 =>
    .pure (l_3.1, l_3.2))
noncomputable def law36_at_F (widths0 : List Int) (cell1 : Int) : Option (Int × Int) := (law36_at_T widths0 cell1).run
def law36_at_L : List (Nat × LoopAnn) := [(3, { head := [.sv 1 false (.int .i64), .sv 6 true (.int .i64), .sv 9 false (.sl (.int .i64)), .sv 10 true (.int .i64), .sv 11 true (.int .i64)], xid := 0, out := [], hasRet := true, res := [.sv 4 true (.int .i64), .sv 5 true (.int .i64)] })]
noncomputable def law36_at_C : List (Nat × Callee) := []
noncomputable def law36_at_fun : Fun := ⟨[.sl (.int .i64), .int .i64], [.v (.int .i64), .v (.int .i64)], fun x => law36_at_F x.1 x.2.1⟩
theorem law36_at_ev (x : Tys.I [.sl (.int .i64), .int .i64]) : evFun G0 (fun f => olook f law36_at_C) ⟨[], [], [], [], [], []⟩ (fun i => olook i law36_at_L) Try.f8 [.sl (.int .i64), .int .i64] [.v (.int .i64), .v (.int .i64)] x = law36_at_T x.1 x.2.1 := by kernel_rfl
theorem law36_at_ok : FunOk Try.prog 8 law36_at_fun := evFun_ok mixed ctx0 (no_calls) Try.func8 (by kernel_rfl) _ (fun x => congrArg Tr.run (law36_at_ev x)) (by kernel_rfl) (by kernel_rfl)
/-! ### boustrophedon/boustrophedonlaw36.shown -/
noncomputable def law36_shown_L3 (glyphs0 : List Int) (widths1 : List Int) (s7 : ByteArray) (i8 : Int) : Tr (Lap (List Int × List Int × ByteArray × Int) ByteArray) :=
  .br (decide (i8 < (glyphs0.length : Int))) (
    .bnd (idx widths1 i8) fun x_2 =>
    .br (x_2 == 0) (
      .bnd (idx glyphs0 i8) fun x_3 =>
      .br (decide (s7.size + (Utf8.encode x_3).size ≤ 9223372036854775807)) (
        .pure (.next (glyphs0, widths1, s7 ++ (Utf8.encode x_3), IntKind.i64.wrap (i8 + 1)))) (
        .fail)) (
      .pure (.done s7))) (
    .pure (.done s7))
noncomputable def law36_shown_T (glyphs0 : List Int) (widths1 : List Int) (k2 : Int) : Tr ByteArray :=
  .bnd (idx glyphs0 k2) fun x_1 =>
  .bnd (loopW (fun s => (law36_shown_L3 s.1 s.2.1 s.2.2.1 s.2.2.2).run) (glyphs0, widths1, Utf8.encode x_1, IntKind.i64.wrap (k2 + 1))) fun l_4 =>
  .pure l_4
noncomputable def law36_shown_F (glyphs0 : List Int) (widths1 : List Int) (k2 : Int) : Option ByteArray := (law36_shown_T glyphs0 widths1 k2).run
def law36_shown_L : List (Nat × LoopAnn) := [(3, { head := [.sv 0 false (.sl (.int .i32)), .sv 1 false (.sl (.int .i64)), .sv 7 true .str, .sv 8 true (.int .i64)], xid := 0, out := [.sv 7 true .str], hasRet := false, res := [] })]
noncomputable def law36_shown_C : List (Nat × Callee) := []
noncomputable def law36_shown_fun : Fun := ⟨[.sl (.int .i32), .sl (.int .i64), .int .i64], [.v .str], fun x => law36_shown_F x.1 x.2.1 x.2.2.1⟩
theorem law36_shown_ev (x : Tys.I [.sl (.int .i32), .sl (.int .i64), .int .i64]) : evFun G0 (fun f => olook f law36_shown_C) ⟨[], [], [], [], [], []⟩ (fun i => olook i law36_shown_L) Try.f9 [.sl (.int .i32), .sl (.int .i64), .int .i64] [.v .str] x = law36_shown_T x.1 x.2.1 x.2.2.1 := by kernel_rfl
theorem law36_shown_ok : FunOk Try.prog 9 law36_shown_fun := evFun_ok mixed ctx0 (no_calls) Try.func9 (by kernel_rfl) _ (fun x => congrArg Tr.run (law36_shown_ev x)) (by kernel_rfl) (by kernel_rfl)
/-! ### boustrophedon/boustrophedonlaw36.ViewRow -/
noncomputable def law36_ViewRow_L9 (glyphs9 : List Int) (widths10 : List Int) (f11 : Int) (n12 : Int) (t48 : List (List Int × Int × Int)) (t49 : Int) (t50 : Int) : Tr (Lap (List Int × List Int × Int × Int × (List (List Int × Int × Int)) × Int × Int) (Sum Unit Bool)) :=
  .br (decide (t50 < t49)) (
    .bnd (idx t48 t50) fun x_4 =>
    .bnd (law36_at_F widths10 (IntKind.i64.wrap (f11 + t50))) fun c_5 =>
    .br (decide (c_5.1 ≥ 0)) (
      .br (decide ((IntKind.i64.wrap (t50 - c_5.2)) < 0)) (
        .br (decide ((-1) < 0)) (
          .bnd (idx ([x_4]) 0) fun x_6 =>
          .br (x_6.2.1 != (-1)) (
            .pure (.done (.inr false))) (
            .bnd (idx ([x_4]) 0) fun x_7 =>
            .br (x_7.2.2 != 0) (
              .pure (.done (.inr false))) (
              .bnd (idx ([x_4]) 0) fun x_8 =>
              .br (!((runesBytes x_8.1).toList == (ByteArray.mk #[32]).toList)) (
                .pure (.done (.inr false))) (
                .pure (.next (glyphs9, widths10, f11, n12, t48, t49, IntKind.i64.wrap (t50 + 1))))))) (
          .br (c_5.2 == 0) (
            .bnd (law36_shown_F glyphs9 widths10 (-1)) fun c_9 =>
            .bnd (idx ([x_4]) 0) fun x_10 =>
            .br (x_10.2.1 != (-1)) (
              .pure (.done (.inr false))) (
              .bnd (idx ([x_4]) 0) fun x_11 =>
              .br (x_11.2.2 != c_5.2) (
                .pure (.done (.inr false))) (
                .bnd (idx ([x_4]) 0) fun x_12 =>
                .br (!((runesBytes x_12.1).toList == c_9.toList)) (
                  .pure (.done (.inr false))) (
                  .pure (.next (glyphs9, widths10, f11, n12, t48, t49, IntKind.i64.wrap (t50 + 1))))))) (
            .bnd (idx ([x_4]) 0) fun x_13 =>
            .br (x_13.2.1 != (-1)) (
              .pure (.done (.inr false))) (
              .bnd (idx ([x_4]) 0) fun x_14 =>
              .br (x_14.2.2 != c_5.2) (
                .pure (.done (.inr false))) (
                .bnd (idx ([x_4]) 0) fun x_15 =>
                .br (!((runesBytes x_15.1).toList == (ByteArray.mk #[]).toList)) (
                  .pure (.done (.inr false))) (
                  .pure (.next (glyphs9, widths10, f11, n12, t48, t49, IntKind.i64.wrap (t50 + 1))))))))) (
        .bnd (idx widths10 c_5.1) fun x_16 =>
        .br (decide ((IntKind.i64.wrap ((IntKind.i64.wrap (t50 - c_5.2)) + x_16)) > n12)) (
          .br (decide ((-1) < 0)) (
            .bnd (idx ([x_4]) 0) fun x_17 =>
            .br (x_17.2.1 != (-1)) (
              .pure (.done (.inr false))) (
              .bnd (idx ([x_4]) 0) fun x_18 =>
              .br (x_18.2.2 != 0) (
                .pure (.done (.inr false))) (
                .bnd (idx ([x_4]) 0) fun x_19 =>
                .br (!((runesBytes x_19.1).toList == (ByteArray.mk #[32]).toList)) (
                  .pure (.done (.inr false))) (
                  .pure (.next (glyphs9, widths10, f11, n12, t48, t49, IntKind.i64.wrap (t50 + 1))))))) (
            .br (c_5.2 == 0) (
              .bnd (law36_shown_F glyphs9 widths10 (-1)) fun c_20 =>
              .bnd (idx ([x_4]) 0) fun x_21 =>
              .br (x_21.2.1 != (-1)) (
                .pure (.done (.inr false))) (
                .bnd (idx ([x_4]) 0) fun x_22 =>
                .br (x_22.2.2 != c_5.2) (
                  .pure (.done (.inr false))) (
                  .bnd (idx ([x_4]) 0) fun x_23 =>
                  .br (!((runesBytes x_23.1).toList == c_20.toList)) (
                    .pure (.done (.inr false))) (
                    .pure (.next (glyphs9, widths10, f11, n12, t48, t49, IntKind.i64.wrap (t50 + 1))))))) (
              .bnd (idx ([x_4]) 0) fun x_24 =>
              .br (x_24.2.1 != (-1)) (
                .pure (.done (.inr false))) (
                .bnd (idx ([x_4]) 0) fun x_25 =>
                .br (x_25.2.2 != c_5.2) (
                  .pure (.done (.inr false))) (
                  .bnd (idx ([x_4]) 0) fun x_26 =>
                  .br (!((runesBytes x_26.1).toList == (ByteArray.mk #[]).toList)) (
                    .pure (.done (.inr false))) (
                    .pure (.next (glyphs9, widths10, f11, n12, t48, t49, IntKind.i64.wrap (t50 + 1))))))))) (
          .br (decide (c_5.1 < 0)) (
            .bnd (idx ([x_4]) 0) fun x_27 =>
            .br (x_27.2.1 != (-1)) (
              .pure (.done (.inr false))) (
              .bnd (idx ([x_4]) 0) fun x_28 =>
              .br (x_28.2.2 != 0) (
                .pure (.done (.inr false))) (
                .bnd (idx ([x_4]) 0) fun x_29 =>
                .br (!((runesBytes x_29.1).toList == (ByteArray.mk #[32]).toList)) (
                  .pure (.done (.inr false))) (
                  .pure (.next (glyphs9, widths10, f11, n12, t48, t49, IntKind.i64.wrap (t50 + 1))))))) (
            .br (c_5.2 == 0) (
              .bnd (law36_shown_F glyphs9 widths10 c_5.1) fun c_30 =>
              .bnd (idx ([x_4]) 0) fun x_31 =>
              .br (x_31.2.1 != c_5.1) (
                .pure (.done (.inr false))) (
                .bnd (idx ([x_4]) 0) fun x_32 =>
                .br (x_32.2.2 != c_5.2) (
                  .pure (.done (.inr false))) (
                  .bnd (idx ([x_4]) 0) fun x_33 =>
                  .br (!((runesBytes x_33.1).toList == c_30.toList)) (
                    .pure (.done (.inr false))) (
                    .pure (.next (glyphs9, widths10, f11, n12, t48, t49, IntKind.i64.wrap (t50 + 1))))))) (
              .bnd (idx ([x_4]) 0) fun x_34 =>
              .br (x_34.2.1 != c_5.1) (
                .pure (.done (.inr false))) (
                .bnd (idx ([x_4]) 0) fun x_35 =>
                .br (x_35.2.2 != c_5.2) (
                  .pure (.done (.inr false))) (
                  .bnd (idx ([x_4]) 0) fun x_36 =>
                  .br (!((runesBytes x_36.1).toList == (ByteArray.mk #[]).toList)) (
                    .pure (.done (.inr false))) (
                    .pure (.next (glyphs9, widths10, f11, n12, t48, t49, IntKind.i64.wrap (t50 + 1))))))))))) (
      .br (decide (c_5.1 < 0)) (
        .bnd (idx ([x_4]) 0) fun x_37 =>
        .br (x_37.2.1 != (-1)) (
          .pure (.done (.inr false))) (
          .bnd (idx ([x_4]) 0) fun x_38 =>
          .br (x_38.2.2 != 0) (
            .pure (.done (.inr false))) (
            .bnd (idx ([x_4]) 0) fun x_39 =>
            .br (!((runesBytes x_39.1).toList == (ByteArray.mk #[32]).toList)) (
              .pure (.done (.inr false))) (
              .pure (.next (glyphs9, widths10, f11, n12, t48, t49, IntKind.i64.wrap (t50 + 1))))))) (
        .br (c_5.2 == 0) (
          .bnd (law36_shown_F glyphs9 widths10 c_5.1) fun c_40 =>
          .bnd (idx ([x_4]) 0) fun x_41 =>
          .br (x_41.2.1 != c_5.1) (
            .pure (.done (.inr false))) (
            .bnd (idx ([x_4]) 0) fun x_42 =>
            .br (x_42.2.2 != c_5.2) (
              .pure (.done (.inr false))) (
              .bnd (idx ([x_4]) 0) fun x_43 =>
              .br (!((runesBytes x_43.1).toList == c_40.toList)) (
                .pure (.done (.inr false))) (
                .pure (.next (glyphs9, widths10, f11, n12, t48, t49, IntKind.i64.wrap (t50 + 1))))))) (
          .bnd (idx ([x_4]) 0) fun x_44 =>
          .br (x_44.2.1 != c_5.1) (
            .pure (.done (.inr false))) (
            .bnd (idx ([x_4]) 0) fun x_45 =>
            .br (x_45.2.2 != c_5.2) (
              .pure (.done (.inr false))) (
              .bnd (idx ([x_4]) 0) fun x_46 =>
              .br (!((runesBytes x_46.1).toList == (ByteArray.mk #[]).toList)) (
                .pure (.done (.inr false))) (
                .pure (.next (glyphs9, widths10, f11, n12, t48, t49, IntKind.i64.wrap (t50 + 1)))))))))) (
    .pure (.done (.inl ())))
noncomputable def law36_ViewRow_T (ns0 : List Int) (ws1 : List Int) (from2 : Int) (count3 : Int) : Tr Bool :=
  .bnd law36_awake_F fun c_1 =>
  .br (!c_1) (
    .pure false) (
    .bnd (law36_Line_F ns0 ws1) fun c_2 =>
    .bnd (view_Row_F c_2.1 c_2.2 (IntKind.i64.wrap from2) (IntKind.i64.wrap count3)) fun c_3 =>
    .br c_3.2.isSome (
      .pure false) (
      .br ((c_3.1.length : Int) != (IntKind.i64.wrap count3)) (
        .pure false) (
        .alt (loopW (fun s => (law36_ViewRow_L9 s.1 s.2.1 s.2.2.1 s.2.2.2.1 s.2.2.2.2.1 s.2.2.2.2.2.1 s.2.2.2.2.2.2).run) (c_2.1, c_2.2, IntKind.i64.wrap from2, IntKind.i64.wrap count3, c_3.1, (c_3.1.length : Int), 0)) (fun l_47 =>
          .pure true) (fun l_48 =>
          .pure l_48))))
noncomputable def law36_ViewRow_F (ns0 : List Int) (ws1 : List Int) (from2 : Int) (count3 : Int) : Option Bool := (law36_ViewRow_T ns0 ws1 from2 count3).run
def law36_ViewRow_L : List (Nat × LoopAnn) := [(9, { head := [.srow 9 1000009 21 true (.int .i32), .srow 10 1000010 3 true (.int .i64), .sv 11 true (.int .i64), .sv 12 true (.int .i64), .srow 48 1000048 35 true (.st (.pair (.sl (.int .i32)) (.pair (.int .i64) (.int .i64)))), .sv 49 true (.int .i64), .sv 50 true (.int .i64)], xid := 0, out := [], hasRet := true, res := [.sv 8 true .bool] })]
noncomputable def law36_ViewRow_C : List (Nat × Callee) := [(5, .plain law36_awake_fun), (6, .plain law36_Line_fun), (7, .plain view_Row_fun), (8, .plain law36_at_fun), (9, .plain law36_shown_fun)]
noncomputable def law36_ViewRow_fun : Fun := ⟨[.sl (.int .u8), .sl (.int .u8), .int .i16, .int .u8], [.v .bool], fun x => law36_ViewRow_F x.1 x.2.1 x.2.2.1 x.2.2.2.1⟩
theorem law36_ViewRow_ev (x : Tys.I [.sl (.int .u8), .sl (.int .u8), .int .i16, .int .u8]) : evFun G0 (fun f => olook f law36_ViewRow_C) ⟨[], [], [], [], [], []⟩ (fun i => olook i law36_ViewRow_L) Try.f3 [.sl (.int .u8), .sl (.int .u8), .int .i16, .int .u8] [.v .bool] x = law36_ViewRow_T x.1 x.2.1 x.2.2.1 x.2.2.2.1 := by kernel_rfl
theorem law36_ViewRow_ok : FunOk Try.prog 3 law36_ViewRow_fun := evFun_ok mixed ctx0 (pc law36_awake_ok (pc law36_Line_ok (pc view_Row_ok (pc law36_at_ok (pc law36_shown_ok (no_calls)))))) Try.func3 (by kernel_rfl) _ (fun x => congrArg Tr.run (law36_ViewRow_ev x)) (by kernel_rfl) (by kernel_rfl)
/-! ### boustrophedon/boustrophedonlaw36.ViewMoves -/
noncomputable def law36_ViewMoves_L5 (ns0 : List Int) (from1 : Int) (count2 : Int) (ws7 : List Int) (t18 : Int) (t19 : Int) : Tr (Lap (List Int × Int × Int × List Int × Int × Int) (List Int × Int × Int × List Int)) :=
  .br (decide (t19 < t18)) (
    .bnd (app 140737488355328 ws7 ([1])) fun r_2 =>
    .pure (.next (ns0, from1, count2, r_2, t18, IntKind.i64.wrap (t19 + 1)))) (
    .pure (.done (ns0, from1, count2, ws7)))
noncomputable def law36_ViewMoves_L14 (a10 : List (List Int × Int × Int)) (b12 : List (List Int × Int × Int)) (t75 : Int) (t76 : Int) : Tr (Lap ((List (List Int × Int × Int)) × (List (List Int × Int × Int)) × Int × Int) (Sum Unit Bool)) :=
  .br (decide (t76 < t75)) (
    .bnd (idx a10 (IntKind.i64.wrap (t76 + 1))) fun x_7 =>
    .bnd (idx b12 t76) fun x_8 =>
    .br (x_7.2.1 != x_8.2.1) (
      .pure (.done (.inr false))) (
      .bnd (idx a10 (IntKind.i64.wrap (t76 + 1))) fun x_9 =>
      .bnd (idx b12 t76) fun x_10 =>
      .br (x_9.2.2 != x_10.2.2) (
        .pure (.done (.inr false))) (
        .bnd (idx a10 (IntKind.i64.wrap (t76 + 1))) fun x_11 =>
        .bnd (idx b12 t76) fun x_12 =>
        .br (!((runesBytes x_11.1).toList == (runesBytes x_12.1).toList)) (
          .pure (.done (.inr false))) (
          .pure (.next (a10, b12, t75, IntKind.i64.wrap (t76 + 1))))))) (
    .pure (.done (.inl ())))
noncomputable def law36_ViewMoves_T (ns0 : List Int) (from1 : Int) (count2 : Int) : Tr Bool :=
  .bnd law36_awake_F fun c_1 =>
  .br (!c_1) (
    .pure false) (
    .bnd (loopW (fun s => (law36_ViewMoves_L5 s.1 s.2.1 s.2.2.1 s.2.2.2.1 s.2.2.2.2.1 s.2.2.2.2.2).run) (ns0, from1, count2, [], (ns0.length : Int), 0)) fun l_3 =>
    .bnd (law36_Line_F l_3.1 l_3.2.2.2) fun c_4 =>
    .bnd (view_Row_F c_4.1 c_4.2 (IntKind.i64.wrap l_3.2.1) (IntKind.i64.wrap ((IntKind.i64.wrap l_3.2.2.1) + 1))) fun c_5 =>
    .bnd (view_Row_F c_4.1 c_4.2 (IntKind.i64.wrap ((IntKind.i64.wrap l_3.2.1) + 1)) (IntKind.i64.wrap l_3.2.2.1)) fun c_6 =>
    .br c_5.2.isSome (
      .pure false) (
      .br c_6.2.isSome (
        .pure false) (
        .br ((c_5.1.length : Int) != (IntKind.i64.wrap ((IntKind.i64.wrap l_3.2.2.1) + 1))) (
          .pure false) (
          .br ((c_6.1.length : Int) != (IntKind.i64.wrap l_3.2.2.1)) (
            .pure false) (
            .alt (loopW (fun s => (law36_ViewMoves_L14 s.1 s.2.1 s.2.2.1 s.2.2.2).run) (c_5.1, c_6.1, (c_6.1.length : Int), 0)) (fun l_13 =>
              .pure true) (fun l_14 =>
              .pure l_14))))))
noncomputable def law36_ViewMoves_F (ns0 : List Int) (from1 : Int) (count2 : Int) : Option Bool := (law36_ViewMoves_T ns0 from1 count2).run
def law36_ViewMoves_L : List (Nat × LoopAnn) := [(5, { head := [.sv 0 false (.sl (.int .u8)), .sv 1 false (.int .i16), .sv 2 false (.int .u8), .srow 7 1000007 5 true (.int .u8), .sv 18 true (.int .i64), .sv 19 true (.int .i64)], xid := 0, out := [.sv 0 false (.sl (.int .u8)), .sv 1 false (.int .i16), .sv 2 false (.int .u8), .srow 7 1000007 5 true (.int .u8)], hasRet := false, res := [] }), (14, { head := [.srow 10 1000010 35 true (.st (.pair (.sl (.int .i32)) (.pair (.int .i64) (.int .i64)))), .srow 12 1000012 35 true (.st (.pair (.sl (.int .i32)) (.pair (.int .i64) (.int .i64)))), .sv 75 true (.int .i64), .sv 76 true (.int .i64)], xid := 2, out := [], hasRet := true, res := [.sv 6 true .bool] })]
noncomputable def law36_ViewMoves_C : List (Nat × Callee) := [(5, .plain law36_awake_fun), (6, .plain law36_Line_fun), (7, .plain view_Row_fun)]
noncomputable def law36_ViewMoves_fun : Fun := ⟨[.sl (.int .u8), .int .i16, .int .u8], [.v .bool], fun x => law36_ViewMoves_F x.1 x.2.1 x.2.2.1⟩
theorem law36_ViewMoves_ev (x : Tys.I [.sl (.int .u8), .int .i16, .int .u8]) : evFun G0 (fun f => olook f law36_ViewMoves_C) ⟨[], [], [], [], [], []⟩ (fun i => olook i law36_ViewMoves_L) Try.f4 [.sl (.int .u8), .int .i16, .int .u8] [.v .bool] x = law36_ViewMoves_T x.1 x.2.1 x.2.2.1 := by kernel_rfl
theorem law36_ViewMoves_ok : FunOk Try.prog 4 law36_ViewMoves_fun := evFun_ok mixed ctx0 (pc law36_awake_ok (pc law36_Line_ok (pc view_Row_ok (no_calls)))) Try.func4 (by kernel_rfl) _ (fun x => congrArg Tr.run (law36_ViewMoves_ev x)) (by kernel_rfl) (by kernel_rfl)
end Go.Proofs.Ytcbmacpdiiehjaa
