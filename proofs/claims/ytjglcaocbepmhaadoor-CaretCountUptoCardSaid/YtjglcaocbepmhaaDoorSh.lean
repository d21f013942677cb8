/-
  The plain readings of the functions of this seat, by program; each is tied to the loaded function.
-/
import Derived.Test.YtjglcaocbepmhaaDoorEvTold2
import Derived.Test.YtjglcaocbepmhaaDoorChecked
namespace Go.Proofs.YtjglcaocbepmhaaDoor
set_option maxRecDepth 100000
set_option linter.unusedVariables false

def G0 : Ctx := { ty := [(3, .int .i64), (4, .bool), (5, .int .u8), (9, .str), (22, .sl (.int .i64)), (27, .err 50 31), (31, .int .i64), (33, .sl (.int .u8)), (36, .sl (.int .u8)), (39, .int .i64), (47, .int .u8)], sls := [(22, ⟨3, .int .i64, 17592186044416⟩), (33, ⟨5, .int .u8, 140737488355328⟩), (36, ⟨47, .int .u8, 140737488355328⟩)], eqs := [], enos := [31] }
theorem mixed : Tryd.prog.follows .mixedOrders = true := by kernel_rfl
theorem ctx0 : CtxOk Tryd.prog G0 := ctx_ok (by kernel_rfl)
theorem no_calls {Λ : List Nat} : ∀ f fa, olook f ([] : List (Nat × Callee)) = some fa → CalleeOk Tryd.prog f fa ∧ (fa.isPlain = false → inList f Λ = true) := fun _ _ h => by cases h
theorem cons_calls {Λ : List Nat} {k : Nat} {fb : Callee} {l : List (Nat × Callee)} (h : CalleeOk Tryd.prog k fb) (hi : fb.isPlain = false → inList k Λ = true) (hl : ∀ f fa, olook f l = some fa → CalleeOk Tryd.prog f fa ∧ (fa.isPlain = false → inList f Λ = true)) : ∀ f fa, olook f ((k, fb) :: l) = some fa → CalleeOk Tryd.prog f fa ∧ (fa.isPlain = false → inList f Λ = true) := by
  intro f fa hf
  rw [olook_cons] at hf
  split at hf
  · rename_i e; subst e; cases hf; exact ⟨h, hi⟩
  · exact hl f fa hf

/-! ### boustrophedon/boustrophedonlaw25.Same -/
noncomputable def law25_Same_L4 (a0 : List Int) (b1 : List Int) (k5 : Int) : Tr (Lap (List Int × List Int × Int) (Sum Unit Bool)) :=
  .br (decide (k5 < (a0.length : Int))) (
    .bnd (idx a0 k5) fun x_1 =>
    .bnd (idx b1 k5) fun x_2 =>
    .br (x_1 != x_2) (
      .pure (.done (.inr false))) (
      .pure (.next (a0, b1, IntKind.i64.wrap (k5 + 1))))) (
    .pure (.done (.inl ())))
noncomputable def law25_Same_T (a0 : List Int) (b1 : List Int) : Tr Bool :=
  .br ((a0.length : Int) != (b1.length : Int)) (
    .pure false) (
    .alt (loopW (fun s => (law25_Same_L4 s.1 s.2.1 s.2.2).run) (a0, b1, 0)) (fun l_3 =>
      .pure true) (fun l_4 =>
      .pure l_4))
noncomputable def law25_Same_F (a0 : List Int) (b1 : List Int) : Option Bool := (law25_Same_T a0 b1).run
def law25_Same_L : List (Nat × LoopAnn) := [(4, { head := [.sv 0 false (.sl (.int .i64)), .sv 1 false (.sl (.int .i64)), .sv 5 true (.int .i64)], xid := 0, out := [], hasRet := true, res := [.sv 4 true .bool] })]
noncomputable def law25_Same_C : List (Nat × Callee) := []
noncomputable def law25_Same_fun : Fun := ⟨[.sl (.int .i64), .sl (.int .i64)], [.v .bool], fun x => law25_Same_F x.1 x.2.1⟩
theorem law25_Same_ev (x : Tys.I [.sl (.int .i64), .sl (.int .i64)]) : evFun G0 (fun f => olook f law25_Same_C) ⟨[], [], []⟩ (fun i => olook i law25_Same_L) Tryd.f8 [.sl (.int .i64), .sl (.int .i64)] [.v .bool] x = law25_Same_T x.1 x.2.1 := by kernel_rfl
theorem law25_Same_ok : FunOk Tryd.prog 8 law25_Same_fun := evFun_ok mixed ctx0 (no_calls) Tryd.func8 (by kernel_rfl) _ (fun x => congrArg Tr.run (law25_Same_ev x)) (by kernel_rfl) (by kernel_rfl)
/-! ### boustrophedon/caret.Stops -/
noncomputable def caret_Stops_L3 (widths0 : List Int) (stops3 : List Int) (t6 : List Int) (t7 : Int) (t8 : Int) : Tr (Lap (List Int × List Int × List Int × Int × Int) (List Int × List Int)) :=
  .br (decide (t8 < t7)) (
    .bnd (idx t6 t8) fun x_1 =>
    .br (decide (x_1 > 0)) (
      .bnd (app 17592186044416 stops3 ([t8])) fun r_2 =>
      .pure (.next (widths0, r_2, t6, t7, IntKind.i64.wrap (t8 + 1)))) (
      .pure (.next (widths0, stops3, t6, t7, IntKind.i64.wrap (t8 + 1))))) (
    .pure (.done (widths0, stops3)))
noncomputable def caret_Stops_T (widths0 : List Int) : Tr (List Int) :=
  .bnd (loopW (fun s => (caret_Stops_L3 s.1 s.2.1 s.2.2.1 s.2.2.2.1 s.2.2.2.2).run) (widths0, [], widths0, (widths0.length : Int), 0)) fun l_3 =>
  .bnd (app 17592186044416 l_3.2 ([(l_3.1.length : Int)])) fun r_4 =>
  .pure r_4
noncomputable def caret_Stops_F (widths0 : List Int) : Option (List Int) := (caret_Stops_T widths0).run
def caret_Stops_L : List (Nat × LoopAnn) := [(3, { head := [.sv 0 false (.sl (.int .i64)), .srow 3 1000003 3 true (.int .i64), .sv 6 false (.sl (.int .i64)), .sv 7 true (.int .i64), .sv 8 true (.int .i64)], xid := 0, out := [.sv 0 false (.sl (.int .i64)), .srow 3 1000003 3 true (.int .i64)], hasRet := false, res := [] })]
noncomputable def caret_Stops_C : List (Nat × Callee) := []
noncomputable def caret_Stops_fun : Fun := ⟨[.sl (.int .i64)], [.row 3 (.int .i64)], fun x => caret_Stops_F x.1⟩
theorem caret_Stops_ev (x : Tys.I [.sl (.int .i64)]) : evFun G0 (fun f => olook f caret_Stops_C) ⟨[], [], []⟩ (fun i => olook i caret_Stops_L) Tryd.f9 [.sl (.int .i64)] [.row 3 (.int .i64)] x = caret_Stops_T x.1 := by kernel_rfl
theorem caret_Stops_ok : FunOk Tryd.prog 9 caret_Stops_fun := evFun_ok mixed ctx0 (no_calls) Tryd.func9 (by kernel_rfl) _ (fun x => congrArg Tr.run (caret_Stops_ev x)) (by kernel_rfl) (by kernel_rfl)
/-! ### slices.Index[[]int,int] -/
noncomputable def slices_Index___int_int__L2 (s0 : List Int) (v1 : Int) (t7 : Int) (t8 : Int) : Tr (Lap (List Int × Int × Int × Int) (Sum Unit Int)) :=
  .br (decide (t8 < t7)) (
    .bnd (idx s0 t8) fun x_1 =>
    .br (v1 == x_1) (
      .pure (.done (.inr t8))) (
      .pure (.next (s0, v1, t7, IntKind.i64.wrap (t8 + 1))))) (
    .pure (.done (.inl ())))
noncomputable def slices_Index___int_int__T (s0 : List Int) (v1 : Int) : Tr Int :=
  .alt (loopW (fun s => (slices_Index___int_int__L2 s.1 s.2.1 s.2.2.1 s.2.2.2).run) (s0, v1, (s0.length : Int), 0)) (fun l_2 =>
    .pure (-1)) (fun l_3 =>
    .pure l_3)
noncomputable def slices_Index___int_int__F (s0 : List Int) (v1 : Int) : Option Int := (slices_Index___int_int__T s0 v1).run
def slices_Index___int_int__L : List (Nat × LoopAnn) := [(2, { head := [.sv 0 false (.sl (.int .i64)), .sv 1 false (.int .i64), .sv 7 true (.int .i64), .sv 8 true (.int .i64)], xid := 0, out := [], hasRet := true, res := [.sv 4 true (.int .i64)] })]
noncomputable def slices_Index___int_int__C : List (Nat × Callee) := []
noncomputable def slices_Index___int_int__fun : Fun := ⟨[.sl (.int .i64), .int .i64], [.v (.int .i64)], fun x => slices_Index___int_int__F x.1 x.2.1⟩
theorem slices_Index___int_int__ev (x : Tys.I [.sl (.int .i64), .int .i64]) : evFun G0 (fun f => olook f slices_Index___int_int__C) ⟨[], [], []⟩ (fun i => olook i slices_Index___int_int__L) Tryd.f18 [.sl (.int .i64), .int .i64] [.v (.int .i64)] x = slices_Index___int_int__T x.1 x.2.1 := by kernel_rfl
theorem slices_Index___int_int__ok : FunOk Tryd.prog 18 slices_Index___int_int__fun := evFun_ok mixed ctx0 (no_calls) Tryd.func18 (by kernel_rfl) _ (fun x => congrArg Tr.run (slices_Index___int_int__ev x)) (by kernel_rfl) (by kernel_rfl)
/-! ### boustrophedon/api.Wrap -/
noncomputable def api_Wrap_F (e : Int) (s : ByteArray) (n : Int) : Option (Option (Int × ByteArray × Int)) := some (some (e, s, n))
noncomputable def api_Wrap_fun : Fun := ⟨[.eno 31, .str, .int .i64], [.v (.err 50 31)], fun x => api_Wrap_F x.1 x.2.1 x.2.2.1⟩
theorem api_Wrap_ok : FunOk Tryd.prog 19 api_Wrap_fun := wrap_ok (tF := 52) ⟨_, _, Tryd.func19, by kernel_rfl, rfl⟩ (fun k n s w => by
  go_enter Tryd.func19, Tryd.ntmps19
  go_wp2
  go_ret
  exact ⟨rfl, rfl⟩)
/-! ### boustrophedon/caret.Right -/
noncomputable def caret_Right_T (stops0 : List Int) (at1 : Int) : Tr (Int × Option (Int × ByteArray × Int)) :=
  .bnd (slices_Index___int_int__F stops0 at1) fun c_1 =>
  .br (decide (c_1 < 0)) (
    .bnd (api_Wrap_F 6 (ByteArray.mk #[99, 97, 114, 101, 116]) at1) fun c_2 =>
    .pure (0, c_2)) (
    .bnd (idx stops0 (if (IntKind.i64.wrap ((stops0.length : Int) - 1)) < (IntKind.i64.wrap (c_1 + 1)) then (IntKind.i64.wrap ((stops0.length : Int) - 1)) else (IntKind.i64.wrap (c_1 + 1)))) fun x_3 =>
    .pure (x_3, none))
noncomputable def caret_Right_F (stops0 : List Int) (at1 : Int) : Option (Int × Option (Int × ByteArray × Int)) := (caret_Right_T stops0 at1).run
def caret_Right_L : List (Nat × LoopAnn) := []
noncomputable def caret_Right_C : List (Nat × Callee) := [(18, .plain slices_Index___int_int__fun), (19, .plain api_Wrap_fun)]
noncomputable def caret_Right_fun : Fun := ⟨[.sl (.int .i64), .int .i64], [.v (.int .i64), .v (.err 50 31)], fun x => caret_Right_F x.1 x.2.1⟩
theorem caret_Right_ev (x : Tys.I [.sl (.int .i64), .int .i64]) : evFun G0 (fun f => olook f caret_Right_C) ⟨[], [], []⟩ (fun i => olook i caret_Right_L) Tryd.f10 [.sl (.int .i64), .int .i64] [.v (.int .i64), .v (.err 50 31)] x = caret_Right_T x.1 x.2.1 := by kernel_rfl
theorem caret_Right_ok : FunOk Tryd.prog 10 caret_Right_fun := evFun_ok mixed ctx0 (cons_calls (fb := .plain slices_Index___int_int__fun) slices_Index___int_int__ok (fun h => by cases h) (cons_calls (fb := .plain api_Wrap_fun) api_Wrap_ok (fun h => by cases h) (no_calls))) Tryd.func10 (by kernel_rfl) _ (fun x => congrArg Tr.run (caret_Right_ev x)) (by kernel_rfl) (by kernel_rfl)
/-! ### boustrophedon/caret.Left -/
noncomputable def caret_Left_T (stops0 : List Int) (at1 : Int) : Tr (Int × Option (Int × ByteArray × Int)) :=
  .bnd (slices_Index___int_int__F stops0 at1) fun c_1 =>
  .br (decide (c_1 < 0)) (
    .bnd (api_Wrap_F 6 (ByteArray.mk #[99, 97, 114, 101, 116]) at1) fun c_2 =>
    .pure (0, c_2)) (
    .bnd (idx stops0 (if 0 > (IntKind.i64.wrap (c_1 - 1)) then 0 else (IntKind.i64.wrap (c_1 - 1)))) fun x_3 =>
    .pure (x_3, none))
noncomputable def caret_Left_F (stops0 : List Int) (at1 : Int) : Option (Int × Option (Int × ByteArray × Int)) := (caret_Left_T stops0 at1).run
def caret_Left_L : List (Nat × LoopAnn) := []
noncomputable def caret_Left_C : List (Nat × Callee) := [(18, .plain slices_Index___int_int__fun), (19, .plain api_Wrap_fun)]
noncomputable def caret_Left_fun : Fun := ⟨[.sl (.int .i64), .int .i64], [.v (.int .i64), .v (.err 50 31)], fun x => caret_Left_F x.1 x.2.1⟩
theorem caret_Left_ev (x : Tys.I [.sl (.int .i64), .int .i64]) : evFun G0 (fun f => olook f caret_Left_C) ⟨[], [], []⟩ (fun i => olook i caret_Left_L) Tryd.f11 [.sl (.int .i64), .int .i64] [.v (.int .i64), .v (.err 50 31)] x = caret_Left_T x.1 x.2.1 := by kernel_rfl
theorem caret_Left_ok : FunOk Tryd.prog 11 caret_Left_fun := evFun_ok mixed ctx0 (cons_calls (fb := .plain slices_Index___int_int__fun) slices_Index___int_int__ok (fun h => by cases h) (cons_calls (fb := .plain api_Wrap_fun) api_Wrap_ok (fun h => by cases h) (no_calls))) Tryd.func11 (by kernel_rfl) _ (fun x => congrArg Tr.run (caret_Left_ev x)) (by kernel_rfl) (by kernel_rfl)
/-! ### boustrophedon/api.Place -/
noncomputable def api_Place_F (x : Option (Int × ByteArray × Int)) : Option (ByteArray × Int) := some (match x with | none => (ByteArray.empty, 0) | some y => (y.2.1, y.2.2))
noncomputable def api_Place_fun : Fun := ⟨[.err 50 31], [.v .str, .v (.int .i64)], fun x => api_Place_F x.1⟩
theorem api_Place_ok : FunOk Tryd.prog 20 api_Place_fun := place_ok
/-! ### boustrophedon/api.Number -/
noncomputable def api_Number_F (x : Option (Int × ByteArray × Int)) : Option Int := some (match x with | none => 0 | some y => y.1)
noncomputable def api_Number_fun : Fun := ⟨[.err 50 31], [.v (.int .i64)], fun x => api_Number_F x.1⟩
theorem api_Number_ok : FunOk Tryd.prog 21 api_Number_fun := number_ok
/-! ### boustrophedon/boustrophedonlaw02.Told -/
noncomputable def law02_Told_T (e0 : Option (Int × ByteArray × Int)) (want1 : Int) (where2 : ByteArray) (at3 : Int) : Tr Bool :=
  .br (want1 == 0) (
    .pure e0.isNone) (
    .bnd (api_Place_F e0) fun c_1 =>
    .bnd (api_Number_F e0) fun c_2 =>
    .br (c_2 == want1) (
      .br (c_1.1.toList == where2.toList) (
        .pure (c_1.2 == at3)) (
        .pure false)) (
      .pure false))
noncomputable def law02_Told_F (e0 : Option (Int × ByteArray × Int)) (want1 : Int) (where2 : ByteArray) (at3 : Int) : Option Bool := (law02_Told_T e0 want1 where2 at3).run
def law02_Told_L : List (Nat × LoopAnn) := []
noncomputable def law02_Told_C : List (Nat × Callee) := [(20, .plain api_Place_fun), (21, .plain api_Number_fun)]
noncomputable def law02_Told_fun : Fun := ⟨[.err 50 31, .int .i64, .str, .int .i64], [.v .bool], fun x => law02_Told_F x.1 x.2.1 x.2.2.1 x.2.2.2.1⟩
theorem law02_Told_ev (x : Tys.I [.err 50 31, .int .i64, .str, .int .i64]) : evFun G0 (fun f => olook f law02_Told_C) ⟨[], [], []⟩ (fun i => olook i law02_Told_L) Tryd.f12 [.err 50 31, .int .i64, .str, .int .i64] [.v .bool] x = law02_Told_T x.1 x.2.1 x.2.2.1 x.2.2.2.1 := by kernel_rfl
theorem law02_Told_ok : FunOk Tryd.prog 12 law02_Told_fun := evFun_ok mixed ctx0 (cons_calls (fb := .plain api_Place_fun) api_Place_ok (fun h => by cases h) (cons_calls (fb := .plain api_Number_fun) api_Number_ok (fun h => by cases h) (no_calls))) Tryd.func12 (by kernel_rfl) _ (fun x => congrArg Tr.run (law02_Told_ev x)) (by kernel_rfl) (by kernel_rfl)
/-! ### boustrophedon/boustrophedonlaw29.awake -/
noncomputable def law29_awake_T : Tr Bool :=
  .bnd (caret_Stops_F ([1, 0, 2])) fun c_1 =>
  .bnd (caret_Right_F c_1 0) fun c_2 =>
  .bnd (caret_Left_F c_1 0) fun c_3 =>
  .bnd (caret_Right_F c_1 1) fun c_4 =>
  .bnd (law25_Same_F c_1 ([0, 2, 3])) fun c_5 =>
  .br c_5 (
    .br (c_2.1 == 2) (
      .br c_2.2.isNone (
        .br (c_3.1 == 0) (
          .br c_3.2.isNone (
            .bnd (law02_Told_F c_4.2 6 (ByteArray.mk #[99, 97, 114, 101, 116]) 1) fun c_6 =>
            .pure c_6) (
            .pure false)) (
          .pure false)) (
        .pure false)) (
      .pure false)) (
    .pure false)
noncomputable def law29_awake_F : Option Bool := (law29_awake_T).run
def law29_awake_L : List (Nat × LoopAnn) := []
noncomputable def law29_awake_C : List (Nat × Callee) := [(9, .plain caret_Stops_fun), (10, .plain caret_Right_fun), (11, .plain caret_Left_fun), (8, .plain law25_Same_fun), (12, .plain law02_Told_fun)]
noncomputable def law29_awake_fun : Fun := ⟨[], [.v .bool], fun _ => law29_awake_F⟩
theorem law29_awake_ev (x : Tys.I []) : evFun G0 (fun f => olook f law29_awake_C) ⟨[], [], []⟩ (fun i => olook i law29_awake_L) Tryd.f7 [] [.v .bool] x = law29_awake_T := by kernel_rfl
theorem law29_awake_ok : FunOk Tryd.prog 7 law29_awake_fun := evFun_ok mixed ctx0 (cons_calls (fb := .plain caret_Stops_fun) caret_Stops_ok (fun h => by cases h) (cons_calls (fb := .plain caret_Right_fun) caret_Right_ok (fun h => by cases h) (cons_calls (fb := .plain caret_Left_fun) caret_Left_ok (fun h => by cases h) (cons_calls (fb := .plain law25_Same_fun) law25_Same_ok (fun h => by cases h) (cons_calls (fb := .plain law02_Told_fun) law02_Told_ok (fun h => by cases h) (no_calls)))))) Tryd.func7 (by kernel_rfl) _ (fun x => congrArg Tr.run (law29_awake_ev x)) (by kernel_rfl) (by kernel_rfl)
/-! ### boustrophedon/boustrophedonlaw29.CaretMoves -/
noncomputable def law29_CaretMoves_L5 (widths0 : List Int) (stops1 : List Int) (at2 : Int) (want7 : List Int) (t18 : List Int) (t19 : Int) (t20 : Int) : Tr (Lap (List Int × List Int × Int × List Int × List Int × Int × Int) (List Int × List Int × Int × List Int)) :=
  .br (decide (t20 < t19)) (
    .bnd (idx t18 t20) fun x_2 =>
    .br (decide (x_2 > 0)) (
      .bnd (app 17592186044416 want7 ([t20])) fun r_3 =>
      .pure (.next (widths0, stops1, at2, r_3, t18, t19, IntKind.i64.wrap (t20 + 1)))) (
      .pure (.next (widths0, stops1, at2, want7, t18, t19, IntKind.i64.wrap (t20 + 1))))) (
    .pure (.done (widths0, stops1, at2, want7)))
noncomputable def law29_CaretMoves_L15 (stops1 : List Int) (at2 : Int) (place10 : Int) (k11 : Int) : Tr (Lap (List Int × Int × Int × Int) (List Int × Int × Int)) :=
  .br (decide (k11 ≥ 0)) (
    .bnd (idx stops1 k11) fun x_8 =>
    .br (x_8 == at2) (
      .pure (.next (stops1, at2, k11, IntKind.i64.wrap (k11 - 1)))) (
      .pure (.next (stops1, at2, place10, IntKind.i64.wrap (k11 - 1))))) (
    .pure (.done (stops1, at2, place10)))
noncomputable def law29_CaretMoves_T (widths0 : List Int) (stops1 : List Int) (at2 : Int) : Tr Bool :=
  .bnd law29_awake_F fun c_1 =>
  .br (!c_1) (
    .pure false) (
    .bnd (loopW (fun s => (law29_CaretMoves_L5 s.1 s.2.1 s.2.2.1 s.2.2.2.1 s.2.2.2.2.1 s.2.2.2.2.2.1 s.2.2.2.2.2.2).run) (widths0, stops1, at2, [], widths0, (widths0.length : Int), 0)) fun l_4 =>
    .bnd (app 17592186044416 l_4.2.2.2 ([(l_4.1.length : Int)])) fun r_5 =>
    .bnd (caret_Stops_F l_4.1) fun c_6 =>
    .bnd (law25_Same_F c_6 r_5) fun c_7 =>
    .br (!c_7) (
      .pure false) (
      .bnd (loopW (fun s => (law29_CaretMoves_L15 s.1 s.2.1 s.2.2.1 s.2.2.2).run) (l_4.2.1, l_4.2.2.1, (-1), IntKind.i64.wrap ((l_4.2.1.length : Int) - 1))) fun l_9 =>
      .bnd (caret_Right_F l_9.1 l_9.2.1) fun c_10 =>
      .bnd (caret_Left_F l_9.1 l_9.2.1) fun c_11 =>
      .br (decide (l_9.2.2 < 0)) (
        .br (c_10.1 == 0) (
          .br (c_11.1 == 0) (
            .bnd (law02_Told_F c_10.2 6 (ByteArray.mk #[99, 97, 114, 101, 116]) l_9.2.1) fun c_12 =>
            .br c_12 (
              .bnd (law02_Told_F c_11.2 6 (ByteArray.mk #[99, 97, 114, 101, 116]) l_9.2.1) fun c_13 =>
              .pure c_13) (
              .pure false)) (
            .pure false)) (
          .pure false)) (
        .br c_10.2.isNone (
          .br c_11.2.isNone (
            .bnd (idx l_9.1 (if (IntKind.i64.wrap ((l_9.1.length : Int) - 1)) < (IntKind.i64.wrap (l_9.2.2 + 1)) then (IntKind.i64.wrap ((l_9.1.length : Int) - 1)) else (IntKind.i64.wrap (l_9.2.2 + 1)))) fun x_14 =>
            .br (c_10.1 == x_14) (
              .bnd (idx l_9.1 (if 0 > (IntKind.i64.wrap (l_9.2.2 - 1)) then 0 else (IntKind.i64.wrap (l_9.2.2 - 1)))) fun x_15 =>
              .pure (c_11.1 == x_15)) (
              .pure false)) (
            .pure false)) (
          .pure false))))
noncomputable def law29_CaretMoves_F (widths0 : List Int) (stops1 : List Int) (at2 : Int) : Option Bool := (law29_CaretMoves_T widths0 stops1 at2).run
def law29_CaretMoves_L : List (Nat × LoopAnn) := [(5, { head := [.sv 0 false (.sl (.int .i64)), .sv 1 false (.sl (.int .i64)), .sv 2 false (.int .i64), .srow 7 1000007 3 true (.int .i64), .sv 18 false (.sl (.int .i64)), .sv 19 true (.int .i64), .sv 20 true (.int .i64)], xid := 0, out := [.sv 0 false (.sl (.int .i64)), .sv 1 false (.sl (.int .i64)), .sv 2 false (.int .i64), .srow 7 1000007 3 true (.int .i64)], hasRet := false, res := [] }), (15, { head := [.sv 1 false (.sl (.int .i64)), .sv 2 false (.int .i64), .sv 10 true (.int .i64), .sv 11 true (.int .i64)], xid := 2, out := [.sv 1 false (.sl (.int .i64)), .sv 2 false (.int .i64), .sv 10 true (.int .i64)], hasRet := false, res := [] })]
noncomputable def law29_CaretMoves_C : List (Nat × Callee) := [(7, .plain law29_awake_fun), (9, .plain caret_Stops_fun), (8, .plain law25_Same_fun), (10, .plain caret_Right_fun), (11, .plain caret_Left_fun), (12, .plain law02_Told_fun)]
noncomputable def law29_CaretMoves_fun : Fun := ⟨[.sl (.int .i64), .sl (.int .i64), .int .i64], [.v .bool], fun x => law29_CaretMoves_F x.1 x.2.1 x.2.2.1⟩
theorem law29_CaretMoves_ev (x : Tys.I [.sl (.int .i64), .sl (.int .i64), .int .i64]) : evFun G0 (fun f => olook f law29_CaretMoves_C) ⟨[], [], []⟩ (fun i => olook i law29_CaretMoves_L) Tryd.f3 [.sl (.int .i64), .sl (.int .i64), .int .i64] [.v .bool] x = law29_CaretMoves_T x.1 x.2.1 x.2.2.1 := by kernel_rfl
theorem law29_CaretMoves_ok : FunOk Tryd.prog 3 law29_CaretMoves_fun := evFun_ok mixed ctx0 (cons_calls (fb := .plain law29_awake_fun) law29_awake_ok (fun h => by cases h) (cons_calls (fb := .plain caret_Stops_fun) caret_Stops_ok (fun h => by cases h) (cons_calls (fb := .plain law25_Same_fun) law25_Same_ok (fun h => by cases h) (cons_calls (fb := .plain caret_Right_fun) caret_Right_ok (fun h => by cases h) (cons_calls (fb := .plain caret_Left_fun) caret_Left_ok (fun h => by cases h) (cons_calls (fb := .plain law02_Told_fun) law02_Told_ok (fun h => by cases h) (no_calls))))))) Tryd.func3 (by kernel_rfl) _ (fun x => congrArg Tr.run (law29_CaretMoves_ev x)) (by kernel_rfl) (by kernel_rfl)
/-! ### boustrophedon/boustrophedonlaw22.Widths -/
noncomputable def law22_Widths_L3 (ns0 : List Int) (out3 : List Int) (k4 : Int) : Tr (Lap (List Int × List Int × Int) (List Int)) :=
  .br (decide (k4 < (ns0.length : Int))) (
    .bnd (idx ns0 k4) fun x_1 =>
    .bnd (app 17592186044416 out3 ([IntKind.i64.wrap (x_1.tmod 3)])) fun r_2 =>
    .pure (.next (ns0, r_2, IntKind.i64.wrap (k4 + 1)))) (
    .pure (.done out3))
noncomputable def law22_Widths_T (ns0 : List Int) : Tr (List Int) :=
  .bnd (loopW (fun s => (law22_Widths_L3 s.1 s.2.1 s.2.2).run) (ns0, [], 0)) fun l_3 =>
  .pure l_3
noncomputable def law22_Widths_F (ns0 : List Int) : Option (List Int) := (law22_Widths_T ns0).run
def law22_Widths_L : List (Nat × LoopAnn) := [(3, { head := [.sv 0 false (.sl (.int .u8)), .srow 3 1000003 3 true (.int .i64), .sv 4 true (.int .i64)], xid := 0, out := [.srow 3 1000003 3 true (.int .i64)], hasRet := false, res := [] })]
noncomputable def law22_Widths_C : List (Nat × Callee) := []
noncomputable def law22_Widths_fun : Fun := ⟨[.sl (.int .u8)], [.row 3 (.int .i64)], fun x => law22_Widths_F x.1⟩
theorem law22_Widths_ev (x : Tys.I [.sl (.int .u8)]) : evFun G0 (fun f => olook f law22_Widths_C) ⟨[], [], []⟩ (fun i => olook i law22_Widths_L) Tryd.f13 [.sl (.int .u8)] [.row 3 (.int .i64)] x = law22_Widths_T x.1 := by kernel_rfl
theorem law22_Widths_ok : FunOk Tryd.prog 13 law22_Widths_fun := evFun_ok mixed ctx0 (no_calls) Tryd.func13 (by kernel_rfl) _ (fun x => congrArg Tr.run (law22_Widths_ev x)) (by kernel_rfl) (by kernel_rfl)
/-! ### boustrophedon/boustrophedonlaw29.CaretBack -/
noncomputable def law29_CaretBack_L8 (stops3 : List Int) (at4 : Int) (k5 : Int) : Tr (Lap (List Int × Int × Int) (Sum Unit Bool)) :=
  .br (decide (k5 < (stops3.length : Int))) (
    .bnd (idx stops3 k5) fun x_5 =>
    .br (at4 != x_5) (
      .pure (.done (.inr false))) (
      .bnd (caret_Right_F stops3 at4) fun c_6 =>
      .bnd (caret_Left_F stops3 c_6.1) fun c_7 =>
      .br c_6.2.isSome (
        .pure (.done (.inr false))) (
        .br c_7.2.isSome (
          .pure (.done (.inr false))) (
          .br (decide ((IntKind.i64.wrap (k5 + 1)) < (stops3.length : Int))) (
            .br (c_7.1 != at4) (
              .pure (.done (.inr false))) (
              .br ((IntKind.i64.wrap (k5 + 1)) == (stops3.length : Int)) (
                .br (c_6.1 != at4) (
                  .pure (.done (.inr false))) (
                  .pure (.next (stops3, c_6.1, IntKind.i64.wrap (k5 + 1))))) (
                .pure (.next (stops3, c_6.1, IntKind.i64.wrap (k5 + 1)))))) (
            .br ((IntKind.i64.wrap (k5 + 1)) == (stops3.length : Int)) (
              .br (c_6.1 != at4) (
                .pure (.done (.inr false))) (
                .pure (.next (stops3, c_6.1, IntKind.i64.wrap (k5 + 1))))) (
              .pure (.next (stops3, c_6.1, IntKind.i64.wrap (k5 + 1))))))))) (
    .pure (.done (.inl ())))
noncomputable def law29_CaretBack_T (ws0 : List Int) : Tr Bool :=
  .bnd law29_awake_F fun c_1 =>
  .br (!c_1) (
    .pure false) (
    .bnd (law22_Widths_F ws0) fun c_2 =>
    .bnd (caret_Stops_F c_2) fun c_3 =>
    .br ((c_3.length : Int) == 0) (
      .pure false) (
      .bnd (idx c_3 0) fun x_4 =>
      .alt (loopW (fun s => (law29_CaretBack_L8 s.1 s.2.1 s.2.2).run) (c_3, x_4, 0)) (fun l_8 =>
        .pure true) (fun l_9 =>
        .pure l_9)))
noncomputable def law29_CaretBack_F (ws0 : List Int) : Option Bool := (law29_CaretBack_T ws0).run
def law29_CaretBack_L : List (Nat × LoopAnn) := [(8, { head := [.srow 3 1000003 3 true (.int .i64), .sv 4 true (.int .i64), .sv 5 true (.int .i64)], xid := 0, out := [], hasRet := true, res := [.sv 2 true .bool] })]
noncomputable def law29_CaretBack_C : List (Nat × Callee) := [(7, .plain law29_awake_fun), (13, .plain law22_Widths_fun), (9, .plain caret_Stops_fun), (10, .plain caret_Right_fun), (11, .plain caret_Left_fun)]
noncomputable def law29_CaretBack_fun : Fun := ⟨[.sl (.int .u8)], [.v .bool], fun x => law29_CaretBack_F x.1⟩
theorem law29_CaretBack_ev (x : Tys.I [.sl (.int .u8)]) : evFun G0 (fun f => olook f law29_CaretBack_C) ⟨[], [], []⟩ (fun i => olook i law29_CaretBack_L) Tryd.f4 [.sl (.int .u8)] [.v .bool] x = law29_CaretBack_T x.1 := by kernel_rfl
theorem law29_CaretBack_ok : FunOk Tryd.prog 4 law29_CaretBack_fun := evFun_ok mixed ctx0 (cons_calls (fb := .plain law29_awake_fun) law29_awake_ok (fun h => by cases h) (cons_calls (fb := .plain law22_Widths_fun) law22_Widths_ok (fun h => by cases h) (cons_calls (fb := .plain caret_Stops_fun) caret_Stops_ok (fun h => by cases h) (cons_calls (fb := .plain caret_Right_fun) caret_Right_ok (fun h => by cases h) (cons_calls (fb := .plain caret_Left_fun) caret_Left_ok (fun h => by cases h) (no_calls)))))) Tryd.func4 (by kernel_rfl) _ (fun x => congrArg Tr.run (law29_CaretBack_ev x)) (by kernel_rfl) (by kernel_rfl)
/-! ### boustrophedon/boustrophedonlaw29.CaretCount -/
noncomputable def law29_CaretCount_L7 (widths3 : List Int) (stops4 : List Int) (n5 : Int) (t16 : Int) (t17 : Int) : Tr (Lap (List Int × List Int × Int × Int × Int) (List Int × List Int × Int)) :=
  .br (decide (t17 < t16)) (
    .bnd (idx widths3 t17) fun x_4 =>
    .br (decide (x_4 > 0)) (
      .pure (.next (widths3, stops4, IntKind.i64.wrap (n5 + 1), t16, IntKind.i64.wrap (t17 + 1)))) (
      .pure (.next (widths3, stops4, n5, t16, IntKind.i64.wrap (t17 + 1))))) (
    .pure (.done (widths3, stops4, n5)))
noncomputable def law29_CaretCount_L13 (widths3 : List Int) (stops4 : List Int) (n5 : Int) (k8 : Int) : Tr (Lap (List Int × List Int × Int × Int) (Sum (List Int × List Int × Int) Bool)) :=
  .br (decide (k8 < (stops4.length : Int))) (
    .bnd (idx stops4 k8) fun x_6 =>
    .bnd (idx stops4 (IntKind.i64.wrap (k8 - 1))) fun x_7 =>
    .br (decide (x_6 ≤ x_7)) (
      .pure (.done (.inr false))) (
      .pure (.next (widths3, stops4, n5, IntKind.i64.wrap (k8 + 1))))) (
    .pure (.done (.inl (widths3, stops4, n5))))
noncomputable def law29_CaretCount_T (ws0 : List Int) : Tr Bool :=
  .bnd law29_awake_F fun c_1 =>
  .br (!c_1) (
    .pure false) (
    .bnd (law22_Widths_F ws0) fun c_2 =>
    .bnd (caret_Stops_F c_2) fun c_3 =>
    .bnd (loopW (fun s => (law29_CaretCount_L7 s.1 s.2.1 s.2.2.1 s.2.2.2.1 s.2.2.2.2).run) (c_2, c_3, 0, (c_2.length : Int), 0)) fun l_5 =>
    .alt (loopW (fun s => (law29_CaretCount_L13 s.1 s.2.1 s.2.2.1 s.2.2.2).run) (l_5.1, l_5.2.1, l_5.2.2, 1)) (fun l_8 =>
      .br ((l_8.2.1.length : Int) == (IntKind.i64.wrap (l_8.2.2 + 1))) (
        .bnd (idx l_8.2.1 l_8.2.2) fun x_9 =>
        .pure (x_9 == (l_8.1.length : Int))) (
        .pure false)) (fun l_10 =>
      .pure l_10))
noncomputable def law29_CaretCount_F (ws0 : List Int) : Option Bool := (law29_CaretCount_T ws0).run
def law29_CaretCount_L : List (Nat × LoopAnn) := [(7, { head := [.srow 3 1000003 3 true (.int .i64), .srow 4 1000004 3 true (.int .i64), .sv 5 true (.int .i64), .sref 15 3 1000003, .sv 16 true (.int .i64), .sv 17 true (.int .i64)], xid := 0, out := [.srow 3 1000003 3 true (.int .i64), .srow 4 1000004 3 true (.int .i64), .sv 5 true (.int .i64)], hasRet := false, res := [] }), (13, { head := [.srow 3 1000003 3 true (.int .i64), .srow 4 1000004 3 true (.int .i64), .sv 5 true (.int .i64), .sv 8 true (.int .i64)], xid := 2, out := [.srow 3 1000003 3 true (.int .i64), .srow 4 1000004 3 true (.int .i64), .sv 5 true (.int .i64)], hasRet := true, res := [.sv 2 true .bool] })]
noncomputable def law29_CaretCount_C : List (Nat × Callee) := [(7, .plain law29_awake_fun), (13, .plain law22_Widths_fun), (9, .plain caret_Stops_fun)]
noncomputable def law29_CaretCount_fun : Fun := ⟨[.sl (.int .u8)], [.v .bool], fun x => law29_CaretCount_F x.1⟩
theorem law29_CaretCount_ev (x : Tys.I [.sl (.int .u8)]) : evFun G0 (fun f => olook f law29_CaretCount_C) ⟨[], [], []⟩ (fun i => olook i law29_CaretCount_L) Tryd.f5 [.sl (.int .u8)] [.v .bool] x = law29_CaretCount_T x.1 := by kernel_rfl
theorem law29_CaretCount_ok : FunOk Tryd.prog 5 law29_CaretCount_fun := evFun_ok mixed ctx0 (cons_calls (fb := .plain law29_awake_fun) law29_awake_ok (fun h => by cases h) (cons_calls (fb := .plain law22_Widths_fun) law22_Widths_ok (fun h => by cases h) (cons_calls (fb := .plain caret_Stops_fun) caret_Stops_ok (fun h => by cases h) (no_calls)))) Tryd.func5 (by kernel_rfl) _ (fun x => congrArg Tr.run (law29_CaretCount_ev x)) (by kernel_rfl) (by kernel_rfl)
/-! ### boustrophedon/bidic.Isolate -/
noncomputable def bidic_Isolate_T (c0 : Int) : Tr Bool :=
  .br (c0 == 19) (
    .pure true) (
    .br (c0 == 20) (
      .pure true) (
      .pure (c0 == 21)))
noncomputable def bidic_Isolate_F (c0 : Int) : Option Bool := (bidic_Isolate_T c0).run
def bidic_Isolate_L : List (Nat × LoopAnn) := []
noncomputable def bidic_Isolate_C : List (Nat × Callee) := []
noncomputable def bidic_Isolate_fun : Fun := ⟨[.int .u8], [.v .bool], fun x => bidic_Isolate_F x.1⟩
theorem bidic_Isolate_ev (x : Tys.I [.int .u8]) : evFun G0 (fun f => olook f bidic_Isolate_C) ⟨[], [], []⟩ (fun i => olook i bidic_Isolate_L) Tryd.f22 [.int .u8] [.v .bool] x = bidic_Isolate_T x.1 := by kernel_rfl
theorem bidic_Isolate_ok : FunOk Tryd.prog 22 bidic_Isolate_fun := evFun_ok mixed ctx0 (no_calls) Tryd.func22 (by kernel_rfl) _ (fun x => congrArg Tr.run (bidic_Isolate_ev x)) (by kernel_rfl) (by kernel_rfl)
/-! ### boustrophedon/bidic.Strong -/
noncomputable def bidic_Strong_T (c0 : Int) : Tr Bool :=
  .br (c0 == 0) (
    .pure true) (
    .br (c0 == 1) (
      .pure true) (
      .pure (c0 == 2)))
noncomputable def bidic_Strong_F (c0 : Int) : Option Bool := (bidic_Strong_T c0).run
def bidic_Strong_L : List (Nat × LoopAnn) := []
noncomputable def bidic_Strong_C : List (Nat × Callee) := []
noncomputable def bidic_Strong_fun : Fun := ⟨[.int .u8], [.v .bool], fun x => bidic_Strong_F x.1⟩
theorem bidic_Strong_ev (x : Tys.I [.int .u8]) : evFun G0 (fun f => olook f bidic_Strong_C) ⟨[], [], []⟩ (fun i => olook i bidic_Strong_L) Tryd.f23 [.int .u8] [.v .bool] x = bidic_Strong_T x.1 := by kernel_rfl
theorem bidic_Strong_ok : FunOk Tryd.prog 23 bidic_Strong_fun := evFun_ok mixed ctx0 (no_calls) Tryd.func23 (by kernel_rfl) _ (fun x => congrArg Tr.run (bidic_Strong_ev x)) (by kernel_rfl) (by kernel_rfl)
/-! ### boustrophedon/base.strong -/
noncomputable def base_strong_T (c0 : Int) : Tr Int :=
  .br (c0 == 0) (
    .pure 0) (
    .pure 1)
noncomputable def base_strong_F (c0 : Int) : Option Int := (base_strong_T c0).run
def base_strong_L : List (Nat × LoopAnn) := []
noncomputable def base_strong_C : List (Nat × Callee) := []
noncomputable def base_strong_fun : Fun := ⟨[.int .u8], [.v (.int .i64)], fun x => base_strong_F x.1⟩
theorem base_strong_ev (x : Tys.I [.int .u8]) : evFun G0 (fun f => olook f base_strong_C) ⟨[], [], []⟩ (fun i => olook i base_strong_L) Tryd.f24 [.int .u8] [.v (.int .i64)] x = base_strong_T x.1 := by kernel_rfl
theorem base_strong_ok : FunOk Tryd.prog 24 base_strong_fun := evFun_ok mixed ctx0 (no_calls) Tryd.func24 (by kernel_rfl) _ (fun x => congrArg Tr.run (base_strong_ev x)) (by kernel_rfl) (by kernel_rfl)
/-! ### boustrophedon/base.First -/
noncomputable def base_First_L3 (inside1 : Bool) (other2 : Int) (depth7 : Int) (t10 : List Int) (t11 : Int) (t12 : Int) : Tr (Lap (Bool × Int × Int × List Int × Int × Int) (Sum Int Int)) :=
  .br (decide (t12 < t11)) (
    .bnd (idx t10 t12) fun x_1 =>
    .bnd (bidic_Isolate_F x_1) fun c_2 =>
    .br c_2 (
      .pure (.next (inside1, other2, IntKind.i64.wrap (depth7 + 1), t10, t11, IntKind.i64.wrap (t12 + 1)))) (
      .br (x_1 == 22) (
        .br (decide (depth7 > 0)) (
          .pure (.next (inside1, other2, IntKind.i64.wrap (depth7 - 1), t10, t11, IntKind.i64.wrap (t12 + 1)))) (
          .br (x_1 == 22) (
            .br inside1 (
              .pure (.done (.inr other2))) (
              .bnd (bidic_Strong_F x_1) fun c_3 =>
              .br c_3 (
                .br (depth7 == 0) (
                  .bnd (base_strong_F x_1) fun c_4 =>
                  .pure (.done (.inr c_4))) (
                  .pure (.next (inside1, other2, depth7, t10, t11, IntKind.i64.wrap (t12 + 1))))) (
                .pure (.next (inside1, other2, depth7, t10, t11, IntKind.i64.wrap (t12 + 1)))))) (
            .bnd (bidic_Strong_F x_1) fun c_5 =>
            .br c_5 (
              .br (depth7 == 0) (
                .bnd (base_strong_F x_1) fun c_6 =>
                .pure (.done (.inr c_6))) (
                .pure (.next (inside1, other2, depth7, t10, t11, IntKind.i64.wrap (t12 + 1))))) (
              .pure (.next (inside1, other2, depth7, t10, t11, IntKind.i64.wrap (t12 + 1))))))) (
        .br (x_1 == 22) (
          .br inside1 (
            .pure (.done (.inr other2))) (
            .bnd (bidic_Strong_F x_1) fun c_7 =>
            .br c_7 (
              .br (depth7 == 0) (
                .bnd (base_strong_F x_1) fun c_8 =>
                .pure (.done (.inr c_8))) (
                .pure (.next (inside1, other2, depth7, t10, t11, IntKind.i64.wrap (t12 + 1))))) (
              .pure (.next (inside1, other2, depth7, t10, t11, IntKind.i64.wrap (t12 + 1)))))) (
          .bnd (bidic_Strong_F x_1) fun c_9 =>
          .br c_9 (
            .br (depth7 == 0) (
              .bnd (base_strong_F x_1) fun c_10 =>
              .pure (.done (.inr c_10))) (
              .pure (.next (inside1, other2, depth7, t10, t11, IntKind.i64.wrap (t12 + 1))))) (
            .pure (.next (inside1, other2, depth7, t10, t11, IntKind.i64.wrap (t12 + 1)))))))) (
    .pure (.done (.inl other2)))
noncomputable def base_First_T (cs0 : List Int) (inside1 : Bool) (other2 : Int) : Tr Int :=
  .alt (loopW (fun s => (base_First_L3 s.1 s.2.1 s.2.2.1 s.2.2.2.1 s.2.2.2.2.1 s.2.2.2.2.2).run) (inside1, other2, 0, cs0, (cs0.length : Int), 0)) (fun l_11 =>
    .pure l_11) (fun l_12 =>
    .pure l_12)
noncomputable def base_First_F (cs0 : List Int) (inside1 : Bool) (other2 : Int) : Option Int := (base_First_T cs0 inside1 other2).run
def base_First_L : List (Nat × LoopAnn) := [(3, { head := [.sv 1 false .bool, .sv 2 false (.int .i64), .sv 7 true (.int .i64), .sv 10 false (.sl (.int .u8)), .sv 11 true (.int .i64), .sv 12 true (.int .i64)], xid := 0, out := [.sv 2 false (.int .i64)], hasRet := true, res := [.sv 6 false (.int .i64)] })]
noncomputable def base_First_C : List (Nat × Callee) := [(22, .plain bidic_Isolate_fun), (23, .plain bidic_Strong_fun), (24, .plain base_strong_fun)]
noncomputable def base_First_fun : Fun := ⟨[.sl (.int .u8), .bool, .int .i64], [.v (.int .i64)], fun x => base_First_F x.1 x.2.1 x.2.2.1⟩
theorem base_First_ev (x : Tys.I [.sl (.int .u8), .bool, .int .i64]) : evFun G0 (fun f => olook f base_First_C) ⟨[], [], []⟩ (fun i => olook i base_First_L) Tryd.f17 [.sl (.int .u8), .bool, .int .i64] [.v (.int .i64)] x = base_First_T x.1 x.2.1 x.2.2.1 := by kernel_rfl
theorem base_First_ok : FunOk Tryd.prog 17 base_First_fun := evFun_ok mixed ctx0 (cons_calls (fb := .plain bidic_Isolate_fun) bidic_Isolate_ok (fun h => by cases h) (cons_calls (fb := .plain bidic_Strong_fun) bidic_Strong_ok (fun h => by cases h) (cons_calls (fb := .plain base_strong_fun) base_strong_ok (fun h => by cases h) (no_calls)))) Tryd.func17 (by kernel_rfl) _ (fun x => congrArg Tr.run (base_First_ev x)) (by kernel_rfl) (by kernel_rfl)
/-! ### boustrophedon/boustrophedonlaw10.awake -/
noncomputable def law10_awake_T : Tr Bool :=
  .bnd (base_First_F ([13, 19, 0, 22, 1]) false 7) fun c_1 =>
  .bnd (base_First_F ([20, 1]) false 7) fun c_2 =>
  .bnd (base_First_F ([13, 22, 1]) true 7) fun c_3 =>
  .br (c_1 == 1) (
    .br (c_2 == 7) (
      .pure (c_3 == 7)) (
      .pure false)) (
    .pure false)
noncomputable def law10_awake_F : Option Bool := (law10_awake_T).run
def law10_awake_L : List (Nat × LoopAnn) := []
noncomputable def law10_awake_C : List (Nat × Callee) := [(17, .plain base_First_fun)]
noncomputable def law10_awake_fun : Fun := ⟨[], [.v .bool], fun _ => law10_awake_F⟩
theorem law10_awake_ev (x : Tys.I []) : evFun G0 (fun f => olook f law10_awake_C) ⟨[], [], []⟩ (fun i => olook i law10_awake_L) Tryd.f14 [] [.v .bool] x = law10_awake_T := by kernel_rfl
theorem law10_awake_ok : FunOk Tryd.prog 14 law10_awake_fun := evFun_ok mixed ctx0 (cons_calls (fb := .plain base_First_fun) base_First_ok (fun h => by cases h) (no_calls)) Tryd.func14 (by kernel_rfl) _ (fun x => congrArg Tr.run (law10_awake_ev x)) (by kernel_rfl) (by kernel_rfl)
/-! ### boustrophedon/boustrophedonlaw08.Classes -/
noncomputable def law08_Classes_L3 (ns0 : List Int) (out3 : List Int) (k4 : Int) : Tr (Lap (List Int × List Int × Int) (List Int)) :=
  .br (decide (k4 < (ns0.length : Int))) (
    .bnd (idx ns0 k4) fun x_1 =>
    .bnd (app 140737488355328 out3 ([x_1.tmod 23])) fun r_2 =>
    .pure (.next (ns0, r_2, IntKind.i64.wrap (k4 + 1)))) (
    .pure (.done out3))
noncomputable def law08_Classes_T (ns0 : List Int) : Tr (List Int) :=
  .bnd (loopW (fun s => (law08_Classes_L3 s.1 s.2.1 s.2.2).run) (ns0, [], 0)) fun l_3 =>
  .pure l_3
noncomputable def law08_Classes_F (ns0 : List Int) : Option (List Int) := (law08_Classes_T ns0).run
def law08_Classes_L : List (Nat × LoopAnn) := [(3, { head := [.sv 0 false (.sl (.int .u8)), .srow 3 1000003 47 true (.int .u8), .sv 4 true (.int .i64)], xid := 0, out := [.srow 3 1000003 47 true (.int .u8)], hasRet := false, res := [] })]
noncomputable def law08_Classes_C : List (Nat × Callee) := []
noncomputable def law08_Classes_fun : Fun := ⟨[.sl (.int .u8)], [.row 47 (.int .u8)], fun x => law08_Classes_F x.1⟩
theorem law08_Classes_ev (x : Tys.I [.sl (.int .u8)]) : evFun G0 (fun f => olook f law08_Classes_C) ⟨[], [], []⟩ (fun i => olook i law08_Classes_L) Tryd.f15 [.sl (.int .u8)] [.row 47 (.int .u8)] x = law08_Classes_T x.1 := by kernel_rfl
theorem law08_Classes_ok : FunOk Tryd.prog 15 law08_Classes_fun := evFun_ok mixed ctx0 (no_calls) Tryd.func15 (by kernel_rfl) _ (fun x => congrArg Tr.run (law08_Classes_ev x)) (by kernel_rfl) (by kernel_rfl)
/-! ### boustrophedon/base.Level -/
noncomputable def base_Level_T (cs0 : List Int) (d1 : Int) : Tr (Int × Option (Int × ByteArray × Int)) :=
  .br (d1 == 0) (
    .bnd (base_First_F cs0 false 0) fun c_1 =>
    .pure (c_1, none)) (
    .br (d1 == 1) (
      .pure (0, none)) (
      .br (d1 == 2) (
        .pure (1, none)) (
        .bnd (api_Wrap_F 3 (ByteArray.mk #[100, 105, 114, 101, 99, 116, 105, 111, 110]) d1) fun c_2 =>
        .pure (0, c_2))))
noncomputable def base_Level_F (cs0 : List Int) (d1 : Int) : Option (Int × Option (Int × ByteArray × Int)) := (base_Level_T cs0 d1).run
def base_Level_L : List (Nat × LoopAnn) := []
noncomputable def base_Level_C : List (Nat × Callee) := [(17, .plain base_First_fun), (19, .plain api_Wrap_fun)]
noncomputable def base_Level_fun : Fun := ⟨[.sl (.int .u8), .int .i64], [.v (.int .i64), .v (.err 50 31)], fun x => base_Level_F x.1 x.2.1⟩
theorem base_Level_ev (x : Tys.I [.sl (.int .u8), .int .i64]) : evFun G0 (fun f => olook f base_Level_C) ⟨[], [], []⟩ (fun i => olook i base_Level_L) Tryd.f16 [.sl (.int .u8), .int .i64] [.v (.int .i64), .v (.err 50 31)] x = base_Level_T x.1 x.2.1 := by kernel_rfl
theorem base_Level_ok : FunOk Tryd.prog 16 base_Level_fun := evFun_ok mixed ctx0 (cons_calls (fb := .plain base_First_fun) base_First_ok (fun h => by cases h) (cons_calls (fb := .plain api_Wrap_fun) api_Wrap_ok (fun h => by cases h) (no_calls))) Tryd.func16 (by kernel_rfl) _ (fun x => congrArg Tr.run (base_Level_ev x)) (by kernel_rfl) (by kernel_rfl)
/-! ### boustrophedon/boustrophedonlaw10.BaseLevel -/
noncomputable def law10_BaseLevel_T (ns0 : List Int) (d1 : Int) : Tr Bool :=
  .bnd law10_awake_F fun c_1 =>
  .br (!c_1) (
    .pure false) (
    .bnd (law08_Classes_F ns0) fun c_2 =>
    .bnd (base_Level_F c_2 1) fun c_3 =>
    .bnd (base_Level_F c_2 2) fun c_4 =>
    .bnd (base_Level_F c_2 0) fun c_5 =>
    .bnd (base_Level_F c_2 d1) fun c_6 =>
    .br (c_3.1 != 0) (
      .pure false) (
      .br c_3.2.isSome (
        .pure false) (
        .br (c_4.1 != 1) (
          .pure false) (
          .br c_4.2.isSome (
            .pure false) (
            .bnd (base_First_F c_2 false 0) fun c_7 =>
            .br (c_5.1 != c_7) (
              .pure false) (
              .br c_5.2.isSome (
                .pure false) (
                .br (decide (d1 < 0)) (
                  .br (c_6.1 == 0) (
                    .bnd (law02_Told_F c_6.2 3 (ByteArray.mk #[100, 105, 114, 101, 99, 116, 105, 111, 110]) d1) fun c_8 =>
                    .pure c_8) (
                    .pure false)) (
                  .br (decide (d1 > 2)) (
                    .br (c_6.1 == 0) (
                      .bnd (law02_Told_F c_6.2 3 (ByteArray.mk #[100, 105, 114, 101, 99, 116, 105, 111, 110]) d1) fun c_9 =>
                      .pure c_9) (
                      .pure false)) (
                    .br c_6.2.isNone (
                      .br (d1 != 1) (
                        .br (d1 != 2) (
                          .br (d1 != 0) (
                            .pure true) (
                            .pure (c_6.1 == c_5.1))) (
                          .br (c_6.1 == 1) (
                            .br (d1 != 0) (
                              .pure true) (
                              .pure (c_6.1 == c_5.1))) (
                            .pure false))) (
                        .br (c_6.1 == 0) (
                          .br (d1 != 2) (
                            .br (d1 != 0) (
                              .pure true) (
                              .pure (c_6.1 == c_5.1))) (
                            .br (c_6.1 == 1) (
                              .br (d1 != 0) (
                                .pure true) (
                                .pure (c_6.1 == c_5.1))) (
                              .pure false))) (
                          .pure false))) (
                      .pure false))))))))))
noncomputable def law10_BaseLevel_F (ns0 : List Int) (d1 : Int) : Option Bool := (law10_BaseLevel_T ns0 d1).run
def law10_BaseLevel_L : List (Nat × LoopAnn) := []
noncomputable def law10_BaseLevel_C : List (Nat × Callee) := [(14, .plain law10_awake_fun), (15, .plain law08_Classes_fun), (16, .plain base_Level_fun), (17, .plain base_First_fun), (12, .plain law02_Told_fun)]
noncomputable def law10_BaseLevel_fun : Fun := ⟨[.sl (.int .u8), .int .i64], [.v .bool], fun x => law10_BaseLevel_F x.1 x.2.1⟩
theorem law10_BaseLevel_ev (x : Tys.I [.sl (.int .u8), .int .i64]) : evFun G0 (fun f => olook f law10_BaseLevel_C) ⟨[], [], []⟩ (fun i => olook i law10_BaseLevel_L) Tryd.f6 [.sl (.int .u8), .int .i64] [.v .bool] x = law10_BaseLevel_T x.1 x.2.1 := by kernel_rfl
theorem law10_BaseLevel_ok : FunOk Tryd.prog 6 law10_BaseLevel_fun := evFun_ok mixed ctx0 (cons_calls (fb := .plain law10_awake_fun) law10_awake_ok (fun h => by cases h) (cons_calls (fb := .plain law08_Classes_fun) law08_Classes_ok (fun h => by cases h) (cons_calls (fb := .plain base_Level_fun) base_Level_ok (fun h => by cases h) (cons_calls (fb := .plain base_First_fun) base_First_ok (fun h => by cases h) (cons_calls (fb := .plain law02_Told_fun) law02_Told_ok (fun h => by cases h) (no_calls)))))) Tryd.func6 (by kernel_rfl) _ (fun x => congrArg Tr.run (law10_BaseLevel_ev x)) (by kernel_rfl) (by kernel_rfl)
end Go.Proofs.YtjglcaocbepmhaaDoor
