/-
  The plain readings of the functions of this seat, by program: the second half.
-/
import Derived.Test.YtcbmacpdiiehjaaDoorVwR
namespace Go.Proofs.YtcbmacpdiiehjaaDoor
set_option maxRecDepth 100000
set_option linter.unusedVariables false

/-! ### boustrophedon/view.Text -/
noncomputable def view_Text_L3 (rs3 : List Int) (t6 : List (List Int × Int × Int)) (t7 : Int) (t8 : Int) : Tr (Lap (List Int × (List (List Int × Int × Int)) × Int × Int) (List Int)) :=
  .br (decide (t8 < t7)) (
    .bnd (idx t6 t8) fun x_1 =>
    .bnd (idx ([x_1]) 0) fun x_2 =>
    .bnd (app 35184372088832 rs3 x_2.1) fun r_3 =>
    .pure (.next (r_3, t6, t7, IntKind.i64.wrap (t8 + 1)))) (
    .pure (.done rs3))
noncomputable def view_Text_T (cells0 : List (List Int × Int × Int)) : Tr (List Int) :=
  .bnd (loopW (fun s => (view_Text_L3 s.1 s.2.1 s.2.2.1 s.2.2.2).run) ([], cells0, (cells0.length : Int), 0)) fun l_4 =>
  .pure l_4
noncomputable def view_Text_F (cells0 : List (List Int × Int × Int)) : Option (List Int) := (view_Text_T cells0).run
def view_Text_L : List (Nat × LoopAnn) := [(3, { head := [.srow 3 1000003 21 true (.int .i32), .sv 6 false (.sl (.st (.pair (.sl (.int .i32)) (.pair (.int .i64) (.int .i64))))), .sv 7 true (.int .i64), .sv 8 true (.int .i64)], xid := 0, out := [.srow 3 1000003 21 true (.int .i32)], hasRet := false, res := [] })]
noncomputable def view_Text_C : List (Nat × Callee) := []
noncomputable def view_Text_fun : Fun := ⟨[.sl (.st (.pair (.sl (.int .i32)) (.pair (.int .i64) (.int .i64))))], [.row 21 (.int .i32)], fun x => view_Text_F x.1⟩
theorem view_Text_ev (x : Tys.I [.sl (.st (.pair (.sl (.int .i32)) (.pair (.int .i64) (.int .i64))))]) : evFun G0 (fun f => olook f view_Text_C) ⟨[], [], [], [], [], []⟩ (fun i => olook i view_Text_L) Tryd.f10 [.sl (.st (.pair (.sl (.int .i32)) (.pair (.int .i64) (.int .i64))))] [.row 21 (.int .i32)] x = view_Text_T x.1 := by kernel_rfl
theorem view_Text_ok : FunOk Tryd.prog 10 view_Text_fun := evFun_ok mixed ctx0 (no_calls) Tryd.func10 (by kernel_rfl) _ (fun x => congrArg Tr.run (view_Text_ev x)) (by kernel_rfl) (by kernel_rfl)
/-! ### boustrophedon/boustrophedonlaw36.awake -/
noncomputable def law36_awake_T : Tr Bool :=
  .bnd (view_Row_F ([97, 19968, 98]) ([1, 2, 1]) 0 4) fun c_1 =>
  .bnd (view_Row_F ([97, 19968, 98]) ([1, 2, 1]) 2 3) fun c_2 =>
  .bnd (view_Row_F ([97, 19968, 98]) ([1, 2, 1]) (-1) 2) fun c_3 =>
  .br c_1.2.isNone (
    .br c_2.2.isNone (
      .br c_3.2.isNone (
        .br ((c_1.1.length : Int) == 4) (
          .bnd (idx c_1.1 2) fun x_4 =>
          .br (x_4.2.1 == 1) (
            .bnd (idx c_1.1 2) fun x_5 =>
            .br (x_5.2.2 == 1) (
              .bnd (view_Text_F c_1.1) fun c_6 =>
              .br ((runesBytes c_6).toList == (runesBytes ([97, 19968, 98])).toList) (
                .bnd (view_Text_F c_2.1) fun c_7 =>
                .br ((runesBytes c_7).toList == (ByteArray.mk #[32, 98, 32]).toList) (
                  .bnd (view_Text_F c_3.1) fun c_8 =>
                  .pure ((runesBytes c_8).toList == (ByteArray.mk #[32, 97]).toList)) (
                  .pure false)) (
                .pure false)) (
              .pure false)) (
            .pure false)) (
          .pure false)) (
        .pure false)) (
      .pure false)) (
    .pure false)
noncomputable def law36_awake_F : Option Bool := (law36_awake_T).run
def law36_awake_L : List (Nat × LoopAnn) := []
noncomputable def law36_awake_C : List (Nat × Callee) := [(8, .plain view_Row_fun), (10, .plain view_Text_fun)]
noncomputable def law36_awake_fun : Fun := ⟨[], [.v .bool], fun _ => law36_awake_F⟩
theorem law36_awake_ev (x : Tys.I []) : evFun G0 (fun f => olook f law36_awake_C) ⟨[], [(5, [0, 1, 2, 3, 4, 5, 6, 7, 8, 9, 10, 11, 12, 13, 14, 15, 16, 17, 18, 19, 20, 21, 22, 23, 24, 25, 26, 27, 28, 29, 30, 33, 34, 31, 32, 35, 36, 37, 38, 39, 40, 41, 42, 43, 44, 45, 46, 47, 48, 49])], [], [], [], []⟩ (fun i => olook i law36_awake_L) Tryd.f5 [] [.v .bool] x = law36_awake_T := by kernel_rfl
theorem law36_awake_ok : FunOk Tryd.prog 5 law36_awake_fun := evFun_ok mixed ctx0 (pc view_Row_ok (pc view_Text_ok (no_calls))) Tryd.func5 (by kernel_rfl) _ (fun x => congrArg Tr.run (law36_awake_ev x)) (by kernel_rfl) (by kernel_rfl)
/-! ### boustrophedon/boustrophedonlaw22.Widths -/
noncomputable def law22_Widths_L3 (ns0 : List Int) (out3 : List Int) (k4 : Int) : Tr (Lap (List Int × List Int × Int) (List Int)) :=
  .br (decide (k4 < (ns0.length : Int))) (
    .bnd (idx ns0 k4) fun x_1 =>
    .bnd (app 17592186044416 out3 ([IntKind.i64.wrap (x_1.tmod 3)])) fun r_2 =>
    .pure (.next (ns0, r_2, IntKind.i64.wrap (k4 + 1)))) (
    .pure (.done out3))
noncomputable def law22_Widths_T (ns0 : List Int) : Tr (List Int) :=
  .bnd (loopW (fun s => (law22_Widths_L3 s.1 s.2.1 s.2.2).run) (ns0, [], 0)) fun l_3 =>
  .pure l_3
noncomputable def law22_Widths_F (ns0 : List Int) : Option (List Int) := (law22_Widths_T ns0).run
def law22_Widths_L : List (Nat × LoopAnn) := [(3, { head := [.sv 0 false (.sl (.int .u8)), .srow 3 1000003 3 true (.int .i64), .sv 4 true (.int .i64)], xid := 0, out := [.srow 3 1000003 3 true (.int .i64)], hasRet := false, res := [] })]
noncomputable def law22_Widths_C : List (Nat × Callee) := []
noncomputable def law22_Widths_fun : Fun := ⟨[.sl (.int .u8)], [.row 3 (.int .i64)], fun x => law22_Widths_F x.1⟩
theorem law22_Widths_ev (x : Tys.I [.sl (.int .u8)]) : evFun G0 (fun f => olook f law22_Widths_C) ⟨[], [], [], [], [], []⟩ (fun i => olook i law22_Widths_L) Tryd.f7 [.sl (.int .u8)] [.row 3 (.int .i64)] x = law22_Widths_T x.1 := by kernel_rfl
theorem law22_Widths_ok : FunOk Tryd.prog 7 law22_Widths_fun := evFun_ok mixed ctx0 (no_calls) Tryd.func7 (by kernel_rfl) _ (fun x => congrArg Tr.run (law22_Widths_ev x)) (by kernel_rfl) (by kernel_rfl)
/-! ### boustrophedon/boustrophedonlaw36.Line -/
noncomputable def law36_Line_L4 (ns0 : List Int) (ws1 : List Int) (n6 : Int) (out7 : List Int) (k8 : Int) : Tr (Lap (List Int × List Int × Int × List Int × Int) (List Int × Int × List Int)) :=
  .br (decide (k8 < n6)) (
    .bnd (idx ns0 k8) fun x_1 =>
    .bnd (app 35184372088832 out7 ([IntKind.i32.wrap (IntKind.i64.wrap (97 + ((IntKind.i64.wrap x_1).tmod 26)))])) fun r_2 =>
    .pure (.next (ns0, ws1, n6, r_2, IntKind.i64.wrap (k8 + 1)))) (
    .pure (.done (ws1, n6, out7)))
noncomputable def law36_Line_T (ns0 : List Int) (ws1 : List Int) : Tr (List Int × List Int) :=
  .bnd (loopW (fun s => (law36_Line_L4 s.1 s.2.1 s.2.2.1 s.2.2.2.1 s.2.2.2.2).run) (ns0, ws1, if (ws1.length : Int) < (ns0.length : Int) then (ws1.length : Int) else (ns0.length : Int), [], 0)) fun l_3 =>
  .bnd (cut l_3.1 0 l_3.2.1) fun r_4 =>
  .bnd (law22_Widths_F r_4) fun c_5 =>
  .pure (l_3.2.2, c_5)
noncomputable def law36_Line_F (ns0 : List Int) (ws1 : List Int) : Option (List Int × List Int) := (law36_Line_T ns0 ws1).run
def law36_Line_L : List (Nat × LoopAnn) := [(4, { head := [.sv 0 false (.sl (.int .u8)), .sv 1 false (.sl (.int .u8)), .sv 6 true (.int .i64), .srow 7 1000007 21 true (.int .i32), .sv 8 true (.int .i64)], xid := 0, out := [.sv 1 false (.sl (.int .u8)), .sv 6 true (.int .i64), .srow 7 1000007 21 true (.int .i32)], hasRet := false, res := [] })]
noncomputable def law36_Line_C : List (Nat × Callee) := [(7, .plain law22_Widths_fun)]
noncomputable def law36_Line_fun : Fun := ⟨[.sl (.int .u8), .sl (.int .u8)], [.row 21 (.int .i32), .row 3 (.int .i64)], fun x => law36_Line_F x.1 x.2.1⟩
theorem law36_Line_ev (x : Tys.I [.sl (.int .u8), .sl (.int .u8)]) : evFun G0 (fun f => olook f law36_Line_C) ⟨[], [], [], [], [], []⟩ (fun i => olook i law36_Line_L) Tryd.f6 [.sl (.int .u8), .sl (.int .u8)] [.row 21 (.int .i32), .row 3 (.int .i64)] x = law36_Line_T x.1 x.2.1 := by kernel_rfl
theorem law36_Line_ok : FunOk Tryd.prog 6 law36_Line_fun := evFun_ok mixed ctx0 (pc law22_Widths_ok (no_calls)) Tryd.func6 (by kernel_rfl) _ (fun x => congrArg Tr.run (law36_Line_ev x)) (by kernel_rfl) (by kernel_rfl)
/-! ### boustrophedon/api.Place -/
noncomputable def api_Place_F (x : Option (Int × ByteArray × Int)) : Option (ByteArray × Int) := some (match x with | none => (ByteArray.empty, 0) | some y => (y.2.1, y.2.2))
noncomputable def api_Place_fun : Fun := ⟨[.err 48 36], [.v .str, .v (.int .i64)], fun x => api_Place_F x.1⟩
theorem api_Place_ok : FunOk Tryd.prog 14 api_Place_fun := place_ok
/-! ### boustrophedon/api.Number -/
noncomputable def api_Number_F (x : Option (Int × ByteArray × Int)) : Option Int := some (match x with | none => 0 | some y => y.1)
noncomputable def api_Number_fun : Fun := ⟨[.err 48 36], [.v (.int .i64)], fun x => api_Number_F x.1⟩
theorem api_Number_ok : FunOk Tryd.prog 15 api_Number_fun := number_ok
/-! ### boustrophedon/boustrophedonlaw02.Told -/
noncomputable def law02_Told_T (e0 : Option (Int × ByteArray × Int)) (want1 : Int) (where2 : ByteArray) (at3 : Int) : Tr Bool :=
  .br (want1 == 0) (
    .pure e0.isNone) (
    .bnd (api_Place_F e0) fun c_1 =>
    .bnd (api_Number_F e0) fun c_2 =>
    .br (c_2 == want1) (
      .br (c_1.1.toList == where2.toList) (
        .pure (c_1.2 == at3)) (
        .pure false)) (
      .pure false))
noncomputable def law02_Told_F (e0 : Option (Int × ByteArray × Int)) (want1 : Int) (where2 : ByteArray) (at3 : Int) : Option Bool := (law02_Told_T e0 want1 where2 at3).run
def law02_Told_L : List (Nat × LoopAnn) := []
noncomputable def law02_Told_C : List (Nat × Callee) := [(14, .plain api_Place_fun), (15, .plain api_Number_fun)]
noncomputable def law02_Told_fun : Fun := ⟨[.err 48 36, .int .i64, .str, .int .i64], [.v .bool], fun x => law02_Told_F x.1 x.2.1 x.2.2.1 x.2.2.2.1⟩
theorem law02_Told_ev (x : Tys.I [.err 48 36, .int .i64, .str, .int .i64]) : evFun G0 (fun f => olook f law02_Told_C) ⟨[], [], [], [], [], []⟩ (fun i => olook i law02_Told_L) Tryd.f9 [.err 48 36, .int .i64, .str, .int .i64] [.v .bool] x = law02_Told_T x.1 x.2.1 x.2.2.1 x.2.2.2.1 := by kernel_rfl
theorem law02_Told_ok : FunOk Tryd.prog 9 law02_Told_fun := evFun_ok mixed ctx0 (pc api_Place_ok (pc api_Number_ok (no_calls))) Tryd.func9 (by kernel_rfl) _ (fun x => congrArg Tr.run (law02_Told_ev x)) (by kernel_rfl) (by kernel_rfl)
/-! ### boustrophedon/boustrophedonlaw36.ViewErrors -/
noncomputable def law36_ViewErrors_T (ns0 : List Int) (ws1 : List Int) (from2 : Int) (count3 : Int) : Tr Bool :=
  .bnd law36_awake_F fun c_1 =>
  .br (!c_1) (
    .pure false) (
    .bnd (law36_Line_F ns0 ns0) fun c_2 =>
    .bnd (law22_Widths_F ws1) fun c_3 =>
    .bnd (view_Row_F c_2.1 c_3 (IntKind.i64.wrap from2) (IntKind.i64.wrap count3)) fun c_4 =>
    .br (decide (count3 < 0)) (
      .br ((c_4.1.length : Int) == 0) (
        .bnd (law02_Told_F c_4.2 2 (ByteArray.mk #[99, 111, 117, 110, 116]) (IntKind.i64.wrap count3)) fun c_5 =>
        .pure c_5) (
        .pure false)) (
      .br ((c_2.1.length : Int) != (c_3.length : Int)) (
        .br ((c_4.1.length : Int) == 0) (
          .bnd (law02_Told_F c_4.2 6 (ByteArray.mk #[103, 108, 121, 112, 104]) (c_2.1.length : Int)) fun c_6 =>
          .pure c_6) (
          .pure false)) (
        .br c_4.2.isNone (
          .pure ((c_4.1.length : Int) == (IntKind.i64.wrap count3))) (
          .pure false))))
noncomputable def law36_ViewErrors_F (ns0 : List Int) (ws1 : List Int) (from2 : Int) (count3 : Int) : Option Bool := (law36_ViewErrors_T ns0 ws1 from2 count3).run
def law36_ViewErrors_L : List (Nat × LoopAnn) := []
noncomputable def law36_ViewErrors_C : List (Nat × Callee) := [(5, .plain law36_awake_fun), (6, .plain law36_Line_fun), (7, .plain law22_Widths_fun), (8, .plain view_Row_fun), (9, .plain law02_Told_fun)]
noncomputable def law36_ViewErrors_fun : Fun := ⟨[.sl (.int .u8), .sl (.int .u8), .int .i16, .int .i16], [.v .bool], fun x => law36_ViewErrors_F x.1 x.2.1 x.2.2.1 x.2.2.2.1⟩
theorem law36_ViewErrors_ev (x : Tys.I [.sl (.int .u8), .sl (.int .u8), .int .i16, .int .i16]) : evFun G0 (fun f => olook f law36_ViewErrors_C) ⟨[], [], [], [], [], []⟩ (fun i => olook i law36_ViewErrors_L) Tryd.f3 [.sl (.int .u8), .sl (.int .u8), .int .i16, .int .i16] [.v .bool] x = law36_ViewErrors_T x.1 x.2.1 x.2.2.1 x.2.2.2.1 := by kernel_rfl
theorem law36_ViewErrors_ok : FunOk Tryd.prog 3 law36_ViewErrors_fun := evFun_ok mixed ctx0 (pc law36_awake_ok (pc law36_Line_ok (pc law22_Widths_ok (pc view_Row_ok (pc law02_Told_ok (no_calls)))))) Tryd.func3 (by kernel_rfl) _ (fun x => congrArg Tr.run (law36_ViewErrors_ev x)) (by kernel_rfl) (by kernel_rfl)
/-! ### boustrophedon/boustrophedonlaw36.ViewMost -/
noncomputable def law36_ViewMost_L8 (count0 : Int) (wide1 : Int) (n7 : Int) (t29 : List (List Int × Int × Int)) (t30 : Int) (t31 : Int) : Tr (Lap (Int × Int × Int × (List (List Int × Int × Int)) × Int × Int) (Int × Int × Int)) :=
  .br (decide (t31 < t30)) (
    .bnd (idx t29 t31) fun x_3 =>
    .bnd (idx ([x_3]) 0) fun x_4 =>
    .br (x_4.2.1 == 0) (
      .pure (.next (count0, wide1, IntKind.i64.wrap (n7 + 1), t29, t30, IntKind.i64.wrap (t31 + 1)))) (
      .pure (.next (count0, wide1, n7, t29, t30, IntKind.i64.wrap (t31 + 1))))) (
    .pure (.done (count0, wide1, n7)))
noncomputable def law36_ViewMost_T (count0 : Int) (wide1 : Int) : Tr Bool :=
  .bnd law36_awake_F fun c_1 =>
  .br (!c_1) (
    .pure false) (
    .bnd (view_Row_F ([97]) ([if wide1 > 0 then wide1 else 0]) 0 5) fun c_2 =>
    .br c_2.2.isSome (
      .pure false) (
      .br ((c_2.1.length : Int) != 5) (
        .pure false) (
        .bnd (loopW (fun s => (law36_ViewMost_L8 s.1 s.2.1 s.2.2.1 s.2.2.2.1 s.2.2.2.2.1 s.2.2.2.2.2).run) (count0, wide1, 0, c_2.1, (c_2.1.length : Int), 0)) fun l_5 =>
        .br (l_5.2.2 != (if (if 2 < l_5.2.1 then 2 else l_5.2.1) > 0 then (if 2 < l_5.2.1 then 2 else l_5.2.1) else 0)) (
          .pure false) (
          .br (decide (l_5.1 ≥ 0)) (
            .br (decide (l_5.1 ≤ 65536)) (
              .pure true) (
              .bnd (view_Row_F ([]) ([]) 0 l_5.1) fun c_6 =>
              .br ((c_6.1.length : Int) == 0) (
                .bnd (law02_Told_F c_6.2 2 (ByteArray.mk #[99, 111, 117, 110, 116]) l_5.1) fun c_7 =>
                .pure c_7) (
                .pure false))) (
            .bnd (view_Row_F ([]) ([]) 0 l_5.1) fun c_8 =>
            .br ((c_8.1.length : Int) == 0) (
              .bnd (law02_Told_F c_8.2 2 (ByteArray.mk #[99, 111, 117, 110, 116]) l_5.1) fun c_9 =>
              .pure c_9) (
              .pure false))))))
noncomputable def law36_ViewMost_F (count0 : Int) (wide1 : Int) : Option Bool := (law36_ViewMost_T count0 wide1).run
def law36_ViewMost_L : List (Nat × LoopAnn) := [(8, { head := [.sv 0 false (.int .i64), .sv 1 false (.int .i64), .sv 7 true (.int .i64), .srow 29 1000029 39 true (.st (.pair (.sl (.int .i32)) (.pair (.int .i64) (.int .i64)))), .sv 30 true (.int .i64), .sv 31 true (.int .i64)], xid := 0, out := [.sv 0 false (.int .i64), .sv 1 false (.int .i64), .sv 7 true (.int .i64)], hasRet := false, res := [] })]
noncomputable def law36_ViewMost_C : List (Nat × Callee) := [(5, .plain law36_awake_fun), (8, .plain view_Row_fun), (9, .plain law02_Told_fun)]
noncomputable def law36_ViewMost_fun : Fun := ⟨[.int .i64, .int .i64], [.v .bool], fun x => law36_ViewMost_F x.1 x.2.1⟩
theorem law36_ViewMost_ev (x : Tys.I [.int .i64, .int .i64]) : evFun G0 (fun f => olook f law36_ViewMost_C) ⟨[], [], [], [], [], []⟩ (fun i => olook i law36_ViewMost_L) Tryd.f4 [.int .i64, .int .i64] [.v .bool] x = law36_ViewMost_T x.1 x.2.1 := by kernel_rfl
theorem law36_ViewMost_ok : FunOk Tryd.prog 4 law36_ViewMost_fun := evFun_ok mixed ctx0 (pc law36_awake_ok (pc view_Row_ok (pc law02_Told_ok (no_calls)))) Tryd.func4 (by kernel_rfl) _ (fun x => congrArg Tr.run (law36_ViewMost_ev x)) (by kernel_rfl) (by kernel_rfl)
end Go.Proofs.YtcbmacpdiiehjaaDoor
