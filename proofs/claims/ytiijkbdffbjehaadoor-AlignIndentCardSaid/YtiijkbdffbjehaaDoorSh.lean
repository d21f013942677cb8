/-
  The plain readings of the functions of this seat, by program; each is tied to the loaded function.
-/
import Derived.Test.YtiijkbdffbjehaaDoorEvTold2
import Derived.Test.YtiijkbdffbjehaaDoorChecked
namespace Go.Proofs.YtiijkbdffbjehaaDoor
set_option maxRecDepth 100000
set_option linter.unusedVariables false

def G0 : Ctx := { ty := [(3, .int .i64), (4, .bool), (5, .int .u8), (9, .str), (22, .int .u16), (25, .err 42 30), (28, .int .i64), (30, .int .i64), (32, .sl (.int .i64)), (34, .sl .bool)], sls := [(32, ⟨3, .int .i64, 17592186044416⟩), (34, ⟨4, .bool, 140737488355328⟩)], eqs := [], enos := [30] }
theorem mixed : Tryd.prog.follows .mixedOrders = true := by kernel_rfl
theorem ctx0 : CtxOk Tryd.prog G0 := ctx_ok (by kernel_rfl)
theorem no_calls {Λ : List Nat} : ∀ f fa, olook f ([] : List (Nat × Callee)) = some fa → CalleeOk Tryd.prog f fa ∧ (fa.isPlain = false → inList f Λ = true) := fun _ _ h => by cases h
theorem cons_calls {Λ : List Nat} {k : Nat} {fb : Callee} {l : List (Nat × Callee)} (h : CalleeOk Tryd.prog k fb) (hi : fb.isPlain = false → inList k Λ = true) (hl : ∀ f fa, olook f l = some fa → CalleeOk Tryd.prog f fa ∧ (fa.isPlain = false → inList f Λ = true)) : ∀ f fa, olook f ((k, fb) :: l) = some fa → CalleeOk Tryd.prog f fa ∧ (fa.isPlain = false → inList f Λ = true) := by
  intro f fa hf
  rw [olook_cons] at hf
  split at hf
  · rename_i e; subst e; cases hf; exact ⟨h, hi⟩
  · exact hl f fa hf

/-! ### boustrophedon/api.Wrap -/
noncomputable def api_Wrap_F (e : Int) (s : ByteArray) (n : Int) : Option (Option (Int × ByteArray × Int)) := some (some (e, s, n))
noncomputable def api_Wrap_fun : Fun := ⟨[.eno 30, .str, .int .i64], [.v (.err 42 30)], fun x => api_Wrap_F x.1 x.2.1 x.2.2.1⟩
theorem api_Wrap_ok : FunOk Tryd.prog 9 api_Wrap_fun := wrap_ok (tF := 44) ⟨_, _, Tryd.func9, by kernel_rfl, rfl⟩ (fun k n s w => by
  go_enter Tryd.func9, Tryd.ntmps9
  go_wp2
  go_ret
  exact ⟨rfl, rfl⟩)
/-! ### boustrophedon/align.Indent -/
noncomputable def align_Indent_T (cells0 : Int) (width1 : Int) (s2 : Int) (level3 : Int) : Tr (Int × Option (Int × ByteArray × Int)) :=
  .br (s2 == 0) (
    .br (!((level3.tmod 2) != 0)) (
      .pure (0, none)) (
      .pure (if 0 > (IntKind.i64.wrap (width1 - cells0)) then 0 else (IntKind.i64.wrap (width1 - cells0)), none))) (
    .br (s2 == 3) (
      .pure (if 0 > (IntKind.i64.wrap (width1 - cells0)) then 0 else (IntKind.i64.wrap (width1 - cells0)), none)) (
      .br (s2 == 1) (
        .br (!((level3.tmod 2) != 0)) (
          .pure (if 0 > (IntKind.i64.wrap (width1 - cells0)) then 0 else (IntKind.i64.wrap (width1 - cells0)), none)) (
          .pure (0, none))) (
        .br (s2 == 2) (
          .pure (0, none)) (
          .br (s2 == 4) (
            .br ((level3.tmod 2) != 0) (
              .pure (IntKind.i64.wrap ((if 0 > (IntKind.i64.wrap (width1 - cells0)) then 0 else (IntKind.i64.wrap (width1 - cells0))) - (IntKind.i64.wrap ((if 0 > (IntKind.i64.wrap (width1 - cells0)) then 0 else (IntKind.i64.wrap (width1 - cells0))).tdiv 2))), none)) (
              .pure (IntKind.i64.wrap ((if 0 > (IntKind.i64.wrap (width1 - cells0)) then 0 else (IntKind.i64.wrap (width1 - cells0))).tdiv 2), none))) (
            .bnd (api_Wrap_F 4 (ByteArray.mk #[115, 105, 100, 101]) s2) fun c_1 =>
            .pure (0, c_1))))))
noncomputable def align_Indent_F (cells0 : Int) (width1 : Int) (s2 : Int) (level3 : Int) : Option (Int × Option (Int × ByteArray × Int)) := (align_Indent_T cells0 width1 s2 level3).run
def align_Indent_L : List (Nat × LoopAnn) := []
noncomputable def align_Indent_C : List (Nat × Callee) := [(9, .plain api_Wrap_fun)]
noncomputable def align_Indent_fun : Fun := ⟨[.int .i64, .int .i64, .int .i64, .int .i64], [.v (.int .i64), .v (.err 42 30)], fun x => align_Indent_F x.1 x.2.1 x.2.2.1 x.2.2.2.1⟩
theorem align_Indent_ev (x : Tys.I [.int .i64, .int .i64, .int .i64, .int .i64]) : evFun G0 (fun f => olook f align_Indent_C) ⟨[], [], []⟩ (fun i => olook i align_Indent_L) Tryd.f5 [.int .i64, .int .i64, .int .i64, .int .i64] [.v (.int .i64), .v (.err 42 30)] x = align_Indent_T x.1 x.2.1 x.2.2.1 x.2.2.2.1 := by kernel_rfl
theorem align_Indent_ok : FunOk Tryd.prog 5 align_Indent_fun := evFun_ok mixed ctx0 (cons_calls (fb := .plain api_Wrap_fun) api_Wrap_ok (fun h => by cases h) (no_calls)) Tryd.func5 (by kernel_rfl) _ (fun x => congrArg Tr.run (align_Indent_ev x)) (by kernel_rfl) (by kernel_rfl)
/-! ### slices.Clone[[]int,int] -/
noncomputable def slices_Clone___int_int__T (s0 : List Int) : Tr (List Int) :=
  .bnd (app 17592186044416 ([]) s0) fun r_1 =>
  .pure r_1
noncomputable def slices_Clone___int_int__F (s0 : List Int) : Option (List Int) := (slices_Clone___int_int__T s0).run
def slices_Clone___int_int__L : List (Nat × LoopAnn) := []
noncomputable def slices_Clone___int_int__C : List (Nat × Callee) := []
noncomputable def slices_Clone___int_int__fun : Fun := ⟨[.sl (.int .i64)], [.row 3 (.int .i64)], fun x => slices_Clone___int_int__F x.1⟩
noncomputable def slices_Clone___int_int__T0 : Tr (List Int) :=
  .pure ([])
theorem slices_Clone___int_int__ev0 : evFunS G0 (fun f => olook f slices_Clone___int_int__C) ⟨[], [], []⟩ (fun i => olook i slices_Clone___int_int__L) Tryd.f12 [.nil] [.row 3 (.int .i64)] = slices_Clone___int_int__T0 := by kernel_rfl
theorem slices_Clone___int_int__ev1 (s0 : List Int) : evFunS G0 (fun f => olook f slices_Clone___int_int__C) ⟨[], [], []⟩ (fun i => olook i slices_Clone___int_int__L) Tryd.f12 [.nn false (.int .i64) s0] [.row 3 (.int .i64)] = slices_Clone___int_int__T s0 := by kernel_rfl
theorem slices_Clone___int_int__nil (r : List Int) (h : slices_Clone___int_int__F [] = some r) : slices_Clone___int_int__T0.run = some r := by
  simp [slices_Clone___int_int__F, slices_Clone___int_int__T, slices_Clone___int_int__T0, app, mk, Tr.run] at h ⊢
  exact h
theorem slices_Clone___int_int__ok : FunOk Tryd.prog 12 slices_Clone___int_int__fun := evFunN_ok (A := ⟨[], [], []⟩) (L := fun i => olook i slices_Clone___int_int__L) mixed ctx0 (no_calls) Tryd.func12 (by kernel_rfl) _ (fun r h => (congrArg Tr.run slices_Clone___int_int__ev0).trans (slices_Clone___int_int__nil r h)) (fun s0 r h => (congrArg Tr.run (slices_Clone___int_int__ev1 s0)).trans h) (by kernel_rfl)
/-! ### boustrophedon/align.may -/
noncomputable def align_may_T (grows0 : List Bool) (i1 : Int) : Tr Bool :=
  .br (decide (i1 < (grows0.length : Int))) (
    .bnd (idx grows0 i1) fun x_1 =>
    .pure x_1) (
    .pure false)
noncomputable def align_may_F (grows0 : List Bool) (i1 : Int) : Option Bool := (align_may_T grows0 i1).run
def align_may_L : List (Nat × LoopAnn) := []
noncomputable def align_may_C : List (Nat × Callee) := []
noncomputable def align_may_fun : Fun := ⟨[.sl .bool, .int .i64], [.v .bool], fun x => align_may_F x.1 x.2.1⟩
theorem align_may_ev (x : Tys.I [.sl .bool, .int .i64]) : evFun G0 (fun f => olook f align_may_C) ⟨[], [], []⟩ (fun i => olook i align_may_L) Tryd.f13 [.sl .bool, .int .i64] [.v .bool] x = align_may_T x.1 x.2.1 := by kernel_rfl
theorem align_may_ok : FunOk Tryd.prog 13 align_may_fun := evFun_ok mixed ctx0 (no_calls) Tryd.func13 (by kernel_rfl) _ (fun x => congrArg Tr.run (align_may_ev x)) (by kernel_rfl) (by kernel_rfl)
/-! ### boustrophedon/align.Justify -/
noncomputable def align_Justify_L4 (grows1 : List Bool) (out7 : List Int) (free8 : Int) (items9 : Int) (t18 : List Int) (t19 : Int) (t20 : Int) : Tr (Lap (List Bool × List Int × Int × Int × List Int × Int × Int) (List Bool × List Int × Int × Int)) :=
  .br (decide (t20 < t19)) (
    .bnd (idx t18 t20) fun x_2 =>
    .bnd (align_may_F grows1 t20) fun c_3 =>
    .br c_3 (
      .pure (.next (grows1, out7, IntKind.i64.wrap (free8 - x_2), IntKind.i64.wrap (items9 + 1), t18, t19, IntKind.i64.wrap (t20 + 1)))) (
      .pure (.next (grows1, out7, IntKind.i64.wrap (free8 - x_2), items9, t18, t19, IntKind.i64.wrap (t20 + 1))))) (
    .pure (.done (grows1, out7, free8, items9)))
noncomputable def align_Justify_L14 (grows1 : List Bool) (out7 : List Int) (each12 : Int) (more13 : Int) (t48 : Int) (t49 : Int) : Tr (Lap (List Bool × List Int × Int × Int × Int × Int) (List Int)) :=
  .br (decide (t49 < t48)) (
    .bnd (align_may_F grows1 t49) fun c_5 =>
    .br (!c_5) (
      .pure (.next (grows1, out7, each12, more13, t48, IntKind.i64.wrap (t49 + 1)))) (
      .bnd (idx out7 t49) fun x_6 =>
      .bnd (idx out7 t49) fun x_7 =>
      .br (decide (more13 > 0)) (
        .bnd (idx (out7.set (Int.toNat t49) (IntKind.i64.wrap (x_6 + each12))) t49) fun x_8 =>
        .bnd (idx (out7.set (Int.toNat t49) (IntKind.i64.wrap (x_6 + each12))) t49) fun x_9 =>
        .pure (.next (grows1, (out7.set (Int.toNat t49) (IntKind.i64.wrap (x_6 + each12))).set (Int.toNat t49) (IntKind.i64.wrap (x_8 + 1)), each12, IntKind.i64.wrap (more13 - 1), t48, IntKind.i64.wrap (t49 + 1)))) (
        .pure (.next (grows1, out7.set (Int.toNat t49) (IntKind.i64.wrap (x_6 + each12)), each12, more13, t48, IntKind.i64.wrap (t49 + 1)))))) (
    .pure (.done out7))
noncomputable def align_Justify_T (widths0 : List Int) (grows1 : List Bool) (width2 : Int) : Tr (List Int) :=
  .bnd (slices_Clone___int_int__F widths0) fun c_1 =>
  .bnd (loopW (fun s => (align_Justify_L4 s.1 s.2.1 s.2.2.1 s.2.2.2.1 s.2.2.2.2.1 s.2.2.2.2.2.1 s.2.2.2.2.2.2).run) (grows1, c_1, width2, 0, widths0, (widths0.length : Int), 0)) fun l_4 =>
  .br (decide (l_4.2.2.1 ≤ 0)) (
    .pure l_4.2.1) (
    .br (l_4.2.2.2 == 0) (
      .pure l_4.2.1) (
      .br (l_4.2.2.2 != 0) (
        .br (l_4.2.2.2 != 0) (
          .bnd (loopW (fun s => (align_Justify_L14 s.1 s.2.1 s.2.2.1 s.2.2.2.1 s.2.2.2.2.1 s.2.2.2.2.2).run) (l_4.1, l_4.2.1, IntKind.i64.wrap (l_4.2.2.1.tdiv l_4.2.2.2), l_4.2.2.1.tmod l_4.2.2.2, (l_4.2.1.length : Int), 0)) fun l_10 =>
          .pure l_10) (
          .fail)) (
        .fail)))
noncomputable def align_Justify_F (widths0 : List Int) (grows1 : List Bool) (width2 : Int) : Option (List Int) := (align_Justify_T widths0 grows1 width2).run
def align_Justify_L : List (Nat × LoopAnn) := [(4, { head := [.sv 1 false (.sl .bool), .srow 7 1000007 3 true (.int .i64), .sv 8 false (.int .i64), .sv 9 true (.int .i64), .sv 18 false (.sl (.int .i64)), .sv 19 true (.int .i64), .sv 20 true (.int .i64)], xid := 0, out := [.sv 1 false (.sl .bool), .srow 7 1000007 3 true (.int .i64), .sv 8 false (.int .i64), .sv 9 true (.int .i64)], hasRet := false, res := [] }), (14, { head := [.sv 1 false (.sl .bool), .srow 7 1000007 3 true (.int .i64), .sv 12 true (.int .i64), .sv 13 true (.int .i64), .sv 48 true (.int .i64), .sv 49 true (.int .i64)], xid := 2, out := [.srow 7 1000007 3 true (.int .i64)], hasRet := false, res := [] })]
noncomputable def align_Justify_C : List (Nat × Callee) := [(12, .plain slices_Clone___int_int__fun), (13, .plain align_may_fun)]
noncomputable def align_Justify_fun : Fun := ⟨[.sl (.int .i64), .sl .bool, .int .i64], [.row 3 (.int .i64)], fun x => align_Justify_F x.1 x.2.1 x.2.2.1⟩
theorem align_Justify_ev (x : Tys.I [.sl (.int .i64), .sl .bool, .int .i64]) : evFun G0 (fun f => olook f align_Justify_C) ⟨[], [], []⟩ (fun i => olook i align_Justify_L) Tryd.f7 [.sl (.int .i64), .sl .bool, .int .i64] [.row 3 (.int .i64)] x = align_Justify_T x.1 x.2.1 x.2.2.1 := by kernel_rfl
theorem align_Justify_ok : FunOk Tryd.prog 7 align_Justify_fun := evFun_ok mixed ctx0 (cons_calls (fb := .plain slices_Clone___int_int__fun) slices_Clone___int_int__ok (fun h => by cases h) (cons_calls (fb := .plain align_may_fun) align_may_ok (fun h => by cases h) (no_calls))) Tryd.func7 (by kernel_rfl) _ (fun x => congrArg Tr.run (align_Justify_ev x)) (by kernel_rfl) (by kernel_rfl)
/-! ### boustrophedon/boustrophedonlaw25.Same -/
noncomputable def law25_Same_L4 (a0 : List Int) (b1 : List Int) (k5 : Int) : Tr (Lap (List Int × List Int × Int) (Sum Unit Bool)) :=
  .br (decide (k5 < (a0.length : Int))) (
    .bnd (idx a0 k5) fun x_1 =>
    .bnd (idx b1 k5) fun x_2 =>
    .br (x_1 != x_2) (
      .pure (.done (.inr false))) (
      .pure (.next (a0, b1, IntKind.i64.wrap (k5 + 1))))) (
    .pure (.done (.inl ())))
noncomputable def law25_Same_T (a0 : List Int) (b1 : List Int) : Tr Bool :=
  .br ((a0.length : Int) != (b1.length : Int)) (
    .pure false) (
    .alt (loopW (fun s => (law25_Same_L4 s.1 s.2.1 s.2.2).run) (a0, b1, 0)) (fun l_3 =>
      .pure true) (fun l_4 =>
      .pure l_4))
noncomputable def law25_Same_F (a0 : List Int) (b1 : List Int) : Option Bool := (law25_Same_T a0 b1).run
def law25_Same_L : List (Nat × LoopAnn) := [(4, { head := [.sv 0 false (.sl (.int .i64)), .sv 1 false (.sl (.int .i64)), .sv 5 true (.int .i64)], xid := 0, out := [], hasRet := true, res := [.sv 4 true .bool] })]
noncomputable def law25_Same_C : List (Nat × Callee) := []
noncomputable def law25_Same_fun : Fun := ⟨[.sl (.int .i64), .sl (.int .i64)], [.v .bool], fun x => law25_Same_F x.1 x.2.1⟩
theorem law25_Same_ev (x : Tys.I [.sl (.int .i64), .sl (.int .i64)]) : evFun G0 (fun f => olook f law25_Same_C) ⟨[], [], []⟩ (fun i => olook i law25_Same_L) Tryd.f8 [.sl (.int .i64), .sl (.int .i64)] [.v .bool] x = law25_Same_T x.1 x.2.1 := by kernel_rfl
theorem law25_Same_ok : FunOk Tryd.prog 8 law25_Same_fun := evFun_ok mixed ctx0 (no_calls) Tryd.func8 (by kernel_rfl) _ (fun x => congrArg Tr.run (law25_Same_ev x)) (by kernel_rfl) (by kernel_rfl)
/-! ### boustrophedon/boustrophedonlaw34.awake -/
noncomputable def law34_awake_T : Tr Bool :=
  .bnd (align_Indent_F 3 10 4 0) fun c_1 =>
  .bnd (align_Indent_F 3 10 4 1) fun c_2 =>
  .bnd (align_Indent_F 3 10 1 1) fun c_3 =>
  .bnd (align_Justify_F ([1, 1, 1, 1]) ([false, true, false, true]) 9) fun c_4 =>
  .br (c_1.1 == 3) (
    .br c_1.2.isNone (
      .br (c_2.1 == 4) (
        .br c_2.2.isNone (
          .br (c_3.1 == 0) (
            .br c_3.2.isNone (
              .bnd (law25_Same_F c_4 ([1, 4, 1, 3])) fun c_5 =>
              .pure c_5) (
              .pure false)) (
            .pure false)) (
          .pure false)) (
        .pure false)) (
      .pure false)) (
    .pure false)
noncomputable def law34_awake_F : Option Bool := (law34_awake_T).run
def law34_awake_L : List (Nat × LoopAnn) := []
noncomputable def law34_awake_C : List (Nat × Callee) := [(5, .plain align_Indent_fun), (7, .plain align_Justify_fun), (8, .plain law25_Same_fun)]
noncomputable def law34_awake_fun : Fun := ⟨[], [.v .bool], fun _ => law34_awake_F⟩
theorem law34_awake_ev (x : Tys.I []) : evFun G0 (fun f => olook f law34_awake_C) ⟨[], [], []⟩ (fun i => olook i law34_awake_L) Tryd.f4 [] [.v .bool] x = law34_awake_T := by kernel_rfl
theorem law34_awake_ok : FunOk Tryd.prog 4 law34_awake_fun := evFun_ok mixed ctx0 (cons_calls (fb := .plain align_Indent_fun) align_Indent_ok (fun h => by cases h) (cons_calls (fb := .plain align_Justify_fun) align_Justify_ok (fun h => by cases h) (cons_calls (fb := .plain law25_Same_fun) law25_Same_ok (fun h => by cases h) (no_calls)))) Tryd.func4 (by kernel_rfl) _ (fun x => congrArg Tr.run (law34_awake_ev x)) (by kernel_rfl) (by kernel_rfl)
/-! ### boustrophedon/api.Place -/
noncomputable def api_Place_F (x : Option (Int × ByteArray × Int)) : Option (ByteArray × Int) := some (match x with | none => (ByteArray.empty, 0) | some y => (y.2.1, y.2.2))
noncomputable def api_Place_fun : Fun := ⟨[.err 42 30], [.v .str, .v (.int .i64)], fun x => api_Place_F x.1⟩
theorem api_Place_ok : FunOk Tryd.prog 10 api_Place_fun := place_ok
/-! ### boustrophedon/api.Number -/
noncomputable def api_Number_F (x : Option (Int × ByteArray × Int)) : Option Int := some (match x with | none => 0 | some y => y.1)
noncomputable def api_Number_fun : Fun := ⟨[.err 42 30], [.v (.int .i64)], fun x => api_Number_F x.1⟩
theorem api_Number_ok : FunOk Tryd.prog 11 api_Number_fun := number_ok
/-! ### boustrophedon/boustrophedonlaw02.Told -/
noncomputable def law02_Told_T (e0 : Option (Int × ByteArray × Int)) (want1 : Int) (where2 : ByteArray) (at3 : Int) : Tr Bool :=
  .br (want1 == 0) (
    .pure e0.isNone) (
    .bnd (api_Place_F e0) fun c_1 =>
    .bnd (api_Number_F e0) fun c_2 =>
    .br (c_2 == want1) (
      .br (c_1.1.toList == where2.toList) (
        .pure (c_1.2 == at3)) (
        .pure false)) (
      .pure false))
noncomputable def law02_Told_F (e0 : Option (Int × ByteArray × Int)) (want1 : Int) (where2 : ByteArray) (at3 : Int) : Option Bool := (law02_Told_T e0 want1 where2 at3).run
def law02_Told_L : List (Nat × LoopAnn) := []
noncomputable def law02_Told_C : List (Nat × Callee) := [(10, .plain api_Place_fun), (11, .plain api_Number_fun)]
noncomputable def law02_Told_fun : Fun := ⟨[.err 42 30, .int .i64, .str, .int .i64], [.v .bool], fun x => law02_Told_F x.1 x.2.1 x.2.2.1 x.2.2.2.1⟩
theorem law02_Told_ev (x : Tys.I [.err 42 30, .int .i64, .str, .int .i64]) : evFun G0 (fun f => olook f law02_Told_C) ⟨[], [], []⟩ (fun i => olook i law02_Told_L) Tryd.f6 [.err 42 30, .int .i64, .str, .int .i64] [.v .bool] x = law02_Told_T x.1 x.2.1 x.2.2.1 x.2.2.2.1 := by kernel_rfl
theorem law02_Told_ok : FunOk Tryd.prog 6 law02_Told_fun := evFun_ok mixed ctx0 (cons_calls (fb := .plain api_Place_fun) api_Place_ok (fun h => by cases h) (cons_calls (fb := .plain api_Number_fun) api_Number_ok (fun h => by cases h) (no_calls))) Tryd.func6 (by kernel_rfl) _ (fun x => congrArg Tr.run (law02_Told_ev x)) (by kernel_rfl) (by kernel_rfl)
/-! ### boustrophedon/boustrophedonlaw34.AlignIndent -/
noncomputable def law34_AlignIndent_T (cells0 : Int) (width1 : Int) (s2 : Int) (level3 : Int) : Tr Bool :=
  .bnd law34_awake_F fun c_1 =>
  .br (!c_1) (
    .pure false) (
    .bnd (align_Indent_F (IntKind.i64.wrap cells0) (IntKind.i64.wrap width1) s2 (IntKind.i64.wrap level3)) fun c_2 =>
    .br (s2 == 0) (
      .br (c_2.1 == (IntKind.i64.wrap ((if (IntKind.i64.wrap ((IntKind.i64.wrap width1) - (IntKind.i64.wrap cells0))) > 0 then (IntKind.i64.wrap ((IntKind.i64.wrap width1) - (IntKind.i64.wrap cells0))) else 0) * ((IntKind.i64.wrap level3).tmod 2)))) (
        .pure c_2.2.isNone) (
        .pure false)) (
      .br (s2 == 1) (
        .br (c_2.1 == (IntKind.i64.wrap ((if (IntKind.i64.wrap ((IntKind.i64.wrap width1) - (IntKind.i64.wrap cells0))) > 0 then (IntKind.i64.wrap ((IntKind.i64.wrap width1) - (IntKind.i64.wrap cells0))) else 0) * (IntKind.i64.wrap (1 - ((IntKind.i64.wrap level3).tmod 2)))))) (
          .pure c_2.2.isNone) (
          .pure false)) (
        .br (s2 == 2) (
          .br (c_2.1 == 0) (
            .pure c_2.2.isNone) (
            .pure false)) (
          .br (s2 == 3) (
            .br (c_2.1 == (if (IntKind.i64.wrap ((IntKind.i64.wrap width1) - (IntKind.i64.wrap cells0))) > 0 then (IntKind.i64.wrap ((IntKind.i64.wrap width1) - (IntKind.i64.wrap cells0))) else 0)) (
              .pure c_2.2.isNone) (
              .pure false)) (
            .br (s2 == 4) (
              .br (c_2.1 == (IntKind.i64.wrap ((IntKind.i64.wrap ((if (IntKind.i64.wrap ((IntKind.i64.wrap width1) - (IntKind.i64.wrap cells0))) > 0 then (IntKind.i64.wrap ((IntKind.i64.wrap width1) - (IntKind.i64.wrap cells0))) else 0) + ((IntKind.i64.wrap level3).tmod 2))).tdiv 2))) (
                .pure c_2.2.isNone) (
                .pure false)) (
              .br (c_2.1 == 0) (
                .bnd (law02_Told_F c_2.2 4 (ByteArray.mk #[115, 105, 100, 101]) s2) fun c_3 =>
                .pure c_3) (
                .pure false)))))))
noncomputable def law34_AlignIndent_F (cells0 : Int) (width1 : Int) (s2 : Int) (level3 : Int) : Option Bool := (law34_AlignIndent_T cells0 width1 s2 level3).run
def law34_AlignIndent_L : List (Nat × LoopAnn) := []
noncomputable def law34_AlignIndent_C : List (Nat × Callee) := [(4, .plain law34_awake_fun), (5, .plain align_Indent_fun), (6, .plain law02_Told_fun)]
noncomputable def law34_AlignIndent_fun : Fun := ⟨[.int .u16, .int .u16, .int .i64, .int .u8], [.v .bool], fun x => law34_AlignIndent_F x.1 x.2.1 x.2.2.1 x.2.2.2.1⟩
theorem law34_AlignIndent_ev (x : Tys.I [.int .u16, .int .u16, .int .i64, .int .u8]) : evFun G0 (fun f => olook f law34_AlignIndent_C) ⟨[], [], []⟩ (fun i => olook i law34_AlignIndent_L) Tryd.f3 [.int .u16, .int .u16, .int .i64, .int .u8] [.v .bool] x = law34_AlignIndent_T x.1 x.2.1 x.2.2.1 x.2.2.2.1 := by kernel_rfl
theorem law34_AlignIndent_ok : FunOk Tryd.prog 3 law34_AlignIndent_fun := evFun_ok mixed ctx0 (cons_calls (fb := .plain law34_awake_fun) law34_awake_ok (fun h => by cases h) (cons_calls (fb := .plain align_Indent_fun) align_Indent_ok (fun h => by cases h) (cons_calls (fb := .plain law02_Told_fun) law02_Told_ok (fun h => by cases h) (no_calls)))) Tryd.func3 (by kernel_rfl) _ (fun x => congrArg Tr.run (law34_AlignIndent_ev x)) (by kernel_rfl) (by kernel_rfl)
end Go.Proofs.YtiijkbdffbjehaaDoor
