/-
  The plain readings of the functions of this seat, by program; each is tied to the loaded function.
-/
import Derived.Test.YtiijkbdffbjehaaEvErr
import Derived.Test.YtiijkbdffbjehaaChecked
namespace Go.Proofs.Ytiijkbdffbjehaa
set_option maxRecDepth 100000
set_option linter.unusedVariables false

def G0 : Ctx := { ty := [(3, .int .i64), (4, .bool), (5, .int .u8), (22, .sl (.int .i64)), (23, .sl (.int .u8)), (34, .int .u16), (36, .err 68 60), (39, .int .i64), (41, .sl .bool), (48, .sl (.st (.pair (.int .i64) (.int .i64)))), (51, .st (.pair (.int .i64) (.int .i64)))], sls := [(22, ⟨3, .int .i64, 17592186044416⟩), (23, ⟨5, .int .u8, 140737488355328⟩), (41, ⟨4, .bool, 140737488355328⟩), (48, ⟨51, .st (.pair (.int .i64) (.int .i64)), 8796093022208⟩)], eqs := [(51, .pair (.int .i64) (.int .i64))], enos := [60] }
theorem mixed : Try.prog.follows .mixedOrders = true := by kernel_rfl
theorem ctx0 : CtxOk Try.prog G0 := ctx_ok (by kernel_rfl)
theorem no_calls {Λ : List Nat} : ∀ f fa, olook f ([] : List (Nat × Callee)) = some fa → CalleeOk Try.prog f fa ∧ (fa.isPlain = false → inList f Λ = true) := fun _ _ h => by cases h
theorem cons_calls {Λ : List Nat} {k : Nat} {fb : Callee} {l : List (Nat × Callee)} (h : CalleeOk Try.prog k fb) (hi : fb.isPlain = false → inList k Λ = true) (hl : ∀ f fa, olook f l = some fa → CalleeOk Try.prog f fa ∧ (fa.isPlain = false → inList f Λ = true)) : ∀ f fa, olook f ((k, fb) :: l) = some fa → CalleeOk Try.prog f fa ∧ (fa.isPlain = false → inList f Λ = true) := by
  intro f fa hf
  rw [olook_cons] at hf
  split at hf
  · rename_i e; subst e; cases hf; exact ⟨h, hi⟩
  · exact hl f fa hf

/-! ### boustrophedon/boustrophedonlaw25.Same -/
noncomputable def law25_Same_L4 (a0 : List Int) (b1 : List Int) (k5 : Int) : Tr (Lap (List Int × List Int × Int) (Sum Unit Bool)) :=
  .br (decide (k5 < (a0.length : Int))) (
    .bnd (idx a0 k5) fun x_1 =>
    .bnd (idx b1 k5) fun x_2 =>
    .br (x_1 != x_2) (
      .pure (.done (.inr false))) (
      .pure (.next (a0, b1, IntKind.i64.wrap (k5 + 1))))) (
    .pure (.done (.inl ())))
noncomputable def law25_Same_T (a0 : List Int) (b1 : List Int) : Tr Bool :=
  .br ((a0.length : Int) != (b1.length : Int)) (
    .pure false) (
    .alt (loopW (fun s => (law25_Same_L4 s.1 s.2.1 s.2.2).run) (a0, b1, 0)) (fun l_3 =>
      .pure true) (fun l_4 =>
      .pure l_4))
noncomputable def law25_Same_F (a0 : List Int) (b1 : List Int) : Option Bool := (law25_Same_T a0 b1).run
def law25_Same_L : List (Nat × LoopAnn) := [(4, { head := [.sv 0 false (.sl (.int .i64)), .sv 1 false (.sl (.int .i64)), .sv 5 true (.int .i64)], xid := 0, out := [], hasRet := true, res := [.sv 4 true .bool] })]
noncomputable def law25_Same_C : List (Nat × Callee) := []
noncomputable def law25_Same_fun : Fun := ⟨[.sl (.int .i64), .sl (.int .i64)], [.v .bool], fun x => law25_Same_F x.1 x.2.1⟩
theorem law25_Same_ev (x : Tys.I [.sl (.int .i64), .sl (.int .i64)]) : evFun G0 (fun f => olook f law25_Same_C) ⟨[], [], []⟩ (fun i => olook i law25_Same_L) Try.f16 [.sl (.int .i64), .sl (.int .i64)] [.v .bool] x = law25_Same_T x.1 x.2.1 := by kernel_rfl
theorem law25_Same_ok : FunOk Try.prog 16 law25_Same_fun := evFun_ok mixed ctx0 (no_calls) Try.func16 (by kernel_rfl) _ (fun x => congrArg Tr.run (law25_Same_ev x)) (by kernel_rfl) (by kernel_rfl)
/-! ### boustrophedon/api.Wrap -/
noncomputable def api_Wrap_F (e : Int) (s : ByteArray) (n : Int) : Option (Option (Int × ByteArray × Int)) := some (some (e, s, n))
noncomputable def api_Wrap_fun : Fun := ⟨[.eno 60, .str, .int .i64], [.v (.err 68 60)], fun x => api_Wrap_F x.1 x.2.1 x.2.2.1⟩
theorem api_Wrap_ok : FunOk Try.prog 34 api_Wrap_fun := wrap_ok (tF := 70) ⟨_, _, Try.func34, by kernel_rfl, rfl⟩ (fun k n s w => by
  go_enter Try.func34, Try.ntmps34
  go_wp2
  go_ret
  exact ⟨rfl, rfl⟩)
/-! ### boustrophedon/align.Indent -/
noncomputable def align_Indent_T (cells0 : Int) (width1 : Int) (s2 : Int) (level3 : Int) : Tr (Int × Option (Int × ByteArray × Int)) :=
  .br (s2 == 0) (
    .br (!((level3.tmod 2) != 0)) (
      .pure (0, none)) (
      .pure (if 0 > (IntKind.i64.wrap (width1 - cells0)) then 0 else (IntKind.i64.wrap (width1 - cells0)), none))) (
    .br (s2 == 3) (
      .pure (if 0 > (IntKind.i64.wrap (width1 - cells0)) then 0 else (IntKind.i64.wrap (width1 - cells0)), none)) (
      .br (s2 == 1) (
        .br (!((level3.tmod 2) != 0)) (
          .pure (if 0 > (IntKind.i64.wrap (width1 - cells0)) then 0 else (IntKind.i64.wrap (width1 - cells0)), none)) (
          .pure (0, none))) (
        .br (s2 == 2) (
          .pure (0, none)) (
          .br (s2 == 4) (
            .br ((level3.tmod 2) != 0) (
              .pure (IntKind.i64.wrap ((if 0 > (IntKind.i64.wrap (width1 - cells0)) then 0 else (IntKind.i64.wrap (width1 - cells0))) - (IntKind.i64.wrap ((if 0 > (IntKind.i64.wrap (width1 - cells0)) then 0 else (IntKind.i64.wrap (width1 - cells0))).tdiv 2))), none)) (
              .pure (IntKind.i64.wrap ((if 0 > (IntKind.i64.wrap (width1 - cells0)) then 0 else (IntKind.i64.wrap (width1 - cells0))).tdiv 2), none))) (
            .bnd (api_Wrap_F 4 (ByteArray.mk #[115, 105, 100, 101]) s2) fun c_1 =>
            .pure (0, c_1))))))
noncomputable def align_Indent_F (cells0 : Int) (width1 : Int) (s2 : Int) (level3 : Int) : Option (Int × Option (Int × ByteArray × Int)) := (align_Indent_T cells0 width1 s2 level3).run
def align_Indent_L : List (Nat × LoopAnn) := []
noncomputable def align_Indent_C : List (Nat × Callee) := [(34, .plain api_Wrap_fun)]
noncomputable def align_Indent_fun : Fun := ⟨[.int .i64, .int .i64, .int .i64, .int .i64], [.v (.int .i64), .v (.err 68 60)], fun x => align_Indent_F x.1 x.2.1 x.2.2.1 x.2.2.2.1⟩
theorem align_Indent_ev (x : Tys.I [.int .i64, .int .i64, .int .i64, .int .i64]) : evFun G0 (fun f => olook f align_Indent_C) ⟨[], [], []⟩ (fun i => olook i align_Indent_L) Try.f21 [.int .i64, .int .i64, .int .i64, .int .i64] [.v (.int .i64), .v (.err 68 60)] x = align_Indent_T x.1 x.2.1 x.2.2.1 x.2.2.2.1 := by kernel_rfl
theorem align_Indent_ok : FunOk Try.prog 21 align_Indent_fun := evFun_ok mixed ctx0 (cons_calls (fb := .plain api_Wrap_fun) api_Wrap_ok (fun h => by cases h) (no_calls)) Try.func21 (by kernel_rfl) _ (fun x => congrArg Tr.run (align_Indent_ev x)) (by kernel_rfl) (by kernel_rfl)
/-! ### slices.Clone[[]int,int] -/
noncomputable def slices_Clone___int_int__T (s0 : List Int) : Tr (List Int) :=
  .bnd (app 17592186044416 ([]) s0) fun r_1 =>
  .pure r_1
noncomputable def slices_Clone___int_int__F (s0 : List Int) : Option (List Int) := (slices_Clone___int_int__T s0).run
def slices_Clone___int_int__L : List (Nat × LoopAnn) := []
noncomputable def slices_Clone___int_int__C : List (Nat × Callee) := []
noncomputable def slices_Clone___int_int__fun : Fun := ⟨[.sl (.int .i64)], [.row 3 (.int .i64)], fun x => slices_Clone___int_int__F x.1⟩
noncomputable def slices_Clone___int_int__T0 : Tr (List Int) :=
  .pure ([])
theorem slices_Clone___int_int__ev0 : evFunS G0 (fun f => olook f slices_Clone___int_int__C) ⟨[], [], []⟩ (fun i => olook i slices_Clone___int_int__L) Try.f35 [.nil] [.row 3 (.int .i64)] = slices_Clone___int_int__T0 := by kernel_rfl
theorem slices_Clone___int_int__ev1 (s0 : List Int) : evFunS G0 (fun f => olook f slices_Clone___int_int__C) ⟨[], [], []⟩ (fun i => olook i slices_Clone___int_int__L) Try.f35 [.nn false (.int .i64) s0] [.row 3 (.int .i64)] = slices_Clone___int_int__T s0 := by kernel_rfl
theorem slices_Clone___int_int__nil (r : List Int) (h : slices_Clone___int_int__F [] = some r) : slices_Clone___int_int__T0.run = some r := by
  simp [slices_Clone___int_int__F, slices_Clone___int_int__T, slices_Clone___int_int__T0, app, mk, Tr.run] at h ⊢
  exact h
theorem slices_Clone___int_int__ok : FunOk Try.prog 35 slices_Clone___int_int__fun := evFunN_ok (A := ⟨[], [], []⟩) (L := fun i => olook i slices_Clone___int_int__L) mixed ctx0 (no_calls) Try.func35 (by kernel_rfl) _ (fun r h => (congrArg Tr.run slices_Clone___int_int__ev0).trans (slices_Clone___int_int__nil r h)) (fun s0 r h => (congrArg Tr.run (slices_Clone___int_int__ev1 s0)).trans h) (by kernel_rfl)
/-! ### boustrophedon/align.may -/
noncomputable def align_may_T (grows0 : List Bool) (i1 : Int) : Tr Bool :=
  .br (decide (i1 < (grows0.length : Int))) (
    .bnd (idx grows0 i1) fun x_1 =>
    .pure x_1) (
    .pure false)
noncomputable def align_may_F (grows0 : List Bool) (i1 : Int) : Option Bool := (align_may_T grows0 i1).run
def align_may_L : List (Nat × LoopAnn) := []
noncomputable def align_may_C : List (Nat × Callee) := []
noncomputable def align_may_fun : Fun := ⟨[.sl .bool, .int .i64], [.v .bool], fun x => align_may_F x.1 x.2.1⟩
theorem align_may_ev (x : Tys.I [.sl .bool, .int .i64]) : evFun G0 (fun f => olook f align_may_C) ⟨[], [], []⟩ (fun i => olook i align_may_L) Try.f36 [.sl .bool, .int .i64] [.v .bool] x = align_may_T x.1 x.2.1 := by kernel_rfl
theorem align_may_ok : FunOk Try.prog 36 align_may_fun := evFun_ok mixed ctx0 (no_calls) Try.func36 (by kernel_rfl) _ (fun x => congrArg Tr.run (align_may_ev x)) (by kernel_rfl) (by kernel_rfl)
/-! ### boustrophedon/align.Justify -/
noncomputable def align_Justify_L4 (grows1 : List Bool) (out7 : List Int) (free8 : Int) (items9 : Int) (t18 : List Int) (t19 : Int) (t20 : Int) : Tr (Lap (List Bool × List Int × Int × Int × List Int × Int × Int) (List Bool × List Int × Int × Int)) :=
  .br (decide (t20 < t19)) (
    .bnd (idx t18 t20) fun x_2 =>
    .bnd (align_may_F grows1 t20) fun c_3 =>
    .br c_3 (
      .pure (.next (grows1, out7, IntKind.i64.wrap (free8 - x_2), IntKind.i64.wrap (items9 + 1), t18, t19, IntKind.i64.wrap (t20 + 1)))) (
      .pure (.next (grows1, out7, IntKind.i64.wrap (free8 - x_2), items9, t18, t19, IntKind.i64.wrap (t20 + 1))))) (
    .pure (.done (grows1, out7, free8, items9)))
noncomputable def align_Justify_L14 (grows1 : List Bool) (out7 : List Int) (each12 : Int) (more13 : Int) (t48 : Int) (t49 : Int) : Tr (Lap (List Bool × List Int × Int × Int × Int × Int) (List Int)) :=
  .br (decide (t49 < t48)) (
    .bnd (align_may_F grows1 t49) fun c_5 =>
    .br (!c_5) (
      .pure (.next (grows1, out7, each12, more13, t48, IntKind.i64.wrap (t49 + 1)))) (
      .bnd (idx out7 t49) fun x_6 =>
      .bnd (idx out7 t49) fun x_7 =>
      .br (decide (more13 > 0)) (
        .bnd (idx (out7.set (Int.toNat t49) (IntKind.i64.wrap (x_6 + each12))) t49) fun x_8 =>
        .bnd (idx (out7.set (Int.toNat t49) (IntKind.i64.wrap (x_6 + each12))) t49) fun x_9 =>
        .pure (.next (grows1, (out7.set (Int.toNat t49) (IntKind.i64.wrap (x_6 + each12))).set (Int.toNat t49) (IntKind.i64.wrap (x_8 + 1)), each12, IntKind.i64.wrap (more13 - 1), t48, IntKind.i64.wrap (t49 + 1)))) (
        .pure (.next (grows1, out7.set (Int.toNat t49) (IntKind.i64.wrap (x_6 + each12)), each12, more13, t48, IntKind.i64.wrap (t49 + 1)))))) (
    .pure (.done out7))
noncomputable def align_Justify_T (widths0 : List Int) (grows1 : List Bool) (width2 : Int) : Tr (List Int) :=
  .bnd (slices_Clone___int_int__F widths0) fun c_1 =>
  .bnd (loopW (fun s => (align_Justify_L4 s.1 s.2.1 s.2.2.1 s.2.2.2.1 s.2.2.2.2.1 s.2.2.2.2.2.1 s.2.2.2.2.2.2).run) (grows1, c_1, width2, 0, widths0, (widths0.length : Int), 0)) fun l_4 =>
  .br (decide (l_4.2.2.1 ≤ 0)) (
    .pure l_4.2.1) (
    .br (l_4.2.2.2 == 0) (
      .pure l_4.2.1) (
      .br (l_4.2.2.2 != 0) (
        .br (l_4.2.2.2 != 0) (
          .bnd (loopW (fun s => (align_Justify_L14 s.1 s.2.1 s.2.2.1 s.2.2.2.1 s.2.2.2.2.1 s.2.2.2.2.2).run) (l_4.1, l_4.2.1, IntKind.i64.wrap (l_4.2.2.1.tdiv l_4.2.2.2), l_4.2.2.1.tmod l_4.2.2.2, (l_4.2.1.length : Int), 0)) fun l_10 =>
          .pure l_10) (
          .fail)) (
        .fail)))
noncomputable def align_Justify_F (widths0 : List Int) (grows1 : List Bool) (width2 : Int) : Option (List Int) := (align_Justify_T widths0 grows1 width2).run
def align_Justify_L : List (Nat × LoopAnn) := [(4, { head := [.sv 1 false (.sl .bool), .srow 7 1000007 3 true (.int .i64), .sv 8 false (.int .i64), .sv 9 true (.int .i64), .sv 18 false (.sl (.int .i64)), .sv 19 true (.int .i64), .sv 20 true (.int .i64)], xid := 0, out := [.sv 1 false (.sl .bool), .srow 7 1000007 3 true (.int .i64), .sv 8 false (.int .i64), .sv 9 true (.int .i64)], hasRet := false, res := [] }), (14, { head := [.sv 1 false (.sl .bool), .srow 7 1000007 3 true (.int .i64), .sv 12 true (.int .i64), .sv 13 true (.int .i64), .sv 48 true (.int .i64), .sv 49 true (.int .i64)], xid := 2, out := [.srow 7 1000007 3 true (.int .i64)], hasRet := false, res := [] })]
noncomputable def align_Justify_C : List (Nat × Callee) := [(35, .plain slices_Clone___int_int__fun), (36, .plain align_may_fun)]
noncomputable def align_Justify_fun : Fun := ⟨[.sl (.int .i64), .sl .bool, .int .i64], [.row 3 (.int .i64)], fun x => align_Justify_F x.1 x.2.1 x.2.2.1⟩
theorem align_Justify_ev (x : Tys.I [.sl (.int .i64), .sl .bool, .int .i64]) : evFun G0 (fun f => olook f align_Justify_C) ⟨[], [], []⟩ (fun i => olook i align_Justify_L) Try.f23 [.sl (.int .i64), .sl .bool, .int .i64] [.row 3 (.int .i64)] x = align_Justify_T x.1 x.2.1 x.2.2.1 := by kernel_rfl
theorem align_Justify_ok : FunOk Try.prog 23 align_Justify_fun := evFun_ok mixed ctx0 (cons_calls (fb := .plain slices_Clone___int_int__fun) slices_Clone___int_int__ok (fun h => by cases h) (cons_calls (fb := .plain align_may_fun) align_may_ok (fun h => by cases h) (no_calls))) Try.func23 (by kernel_rfl) _ (fun x => congrArg Tr.run (align_Justify_ev x)) (by kernel_rfl) (by kernel_rfl)
/-! ### boustrophedon/boustrophedonlaw34.awake -/
noncomputable def law34_awake_T : Tr Bool :=
  .bnd (align_Indent_F 3 10 4 0) fun c_1 =>
  .bnd (align_Indent_F 3 10 4 1) fun c_2 =>
  .bnd (align_Indent_F 3 10 1 1) fun c_3 =>
  .bnd (align_Justify_F ([1, 1, 1, 1]) ([false, true, false, true]) 9) fun c_4 =>
  .br (c_1.1 == 3) (
    .br c_1.2.isNone (
      .br (c_2.1 == 4) (
        .br c_2.2.isNone (
          .br (c_3.1 == 0) (
            .br c_3.2.isNone (
              .bnd (law25_Same_F c_4 ([1, 4, 1, 3])) fun c_5 =>
              .pure c_5) (
              .pure false)) (
            .pure false)) (
          .pure false)) (
        .pure false)) (
      .pure false)) (
    .pure false)
noncomputable def law34_awake_F : Option Bool := (law34_awake_T).run
def law34_awake_L : List (Nat × LoopAnn) := []
noncomputable def law34_awake_C : List (Nat × Callee) := [(21, .plain align_Indent_fun), (23, .plain align_Justify_fun), (16, .plain law25_Same_fun)]
noncomputable def law34_awake_fun : Fun := ⟨[], [.v .bool], fun _ => law34_awake_F⟩
theorem law34_awake_ev (x : Tys.I []) : evFun G0 (fun f => olook f law34_awake_C) ⟨[], [], []⟩ (fun i => olook i law34_awake_L) Try.f20 [] [.v .bool] x = law34_awake_T := by kernel_rfl
theorem law34_awake_ok : FunOk Try.prog 20 law34_awake_fun := evFun_ok mixed ctx0 (cons_calls (fb := .plain align_Indent_fun) align_Indent_ok (fun h => by cases h) (cons_calls (fb := .plain align_Justify_fun) align_Justify_ok (fun h => by cases h) (cons_calls (fb := .plain law25_Same_fun) law25_Same_ok (fun h => by cases h) (no_calls)))) Try.func20 (by kernel_rfl) _ (fun x => congrArg Tr.run (law34_awake_ev x)) (by kernel_rfl) (by kernel_rfl)
/-! ### boustrophedon/boustrophedonlaw34.AlignBoth -/
noncomputable def law34_AlignBoth_T (cells0 : Int) (width1 : Int) (level2 : Int) : Tr Bool :=
  .bnd law34_awake_F fun c_1 =>
  .br (!c_1) (
    .pure false) (
    .bnd (align_Indent_F (IntKind.i64.wrap cells0) (IntKind.i64.wrap width1) 0 (IntKind.i64.wrap level2)) fun c_2 =>
    .bnd (align_Indent_F (IntKind.i64.wrap cells0) (IntKind.i64.wrap width1) 1 (IntKind.i64.wrap level2)) fun c_3 =>
    .bnd (align_Indent_F (IntKind.i64.wrap cells0) (IntKind.i64.wrap width1) 2 (IntKind.i64.wrap level2)) fun c_4 =>
    .bnd (align_Indent_F (IntKind.i64.wrap cells0) (IntKind.i64.wrap width1) 3 (IntKind.i64.wrap level2)) fun c_5 =>
    .bnd (align_Indent_F (IntKind.i64.wrap cells0) (IntKind.i64.wrap width1) 4 (IntKind.i64.wrap level2)) fun c_6 =>
    .bnd (align_Indent_F (IntKind.i64.wrap cells0) (IntKind.i64.wrap width1) 4 (IntKind.i64.wrap ((IntKind.i64.wrap level2) + 1))) fun c_7 =>
    .br ((IntKind.i64.wrap (c_2.1 + c_3.1)) == (if (IntKind.i64.wrap ((IntKind.i64.wrap width1) - (IntKind.i64.wrap cells0))) > 0 then (IntKind.i64.wrap ((IntKind.i64.wrap width1) - (IntKind.i64.wrap cells0))) else 0)) (
      .br (c_4.1 == 0) (
        .br (c_5.1 == (if (IntKind.i64.wrap ((IntKind.i64.wrap width1) - (IntKind.i64.wrap cells0))) > 0 then (IntKind.i64.wrap ((IntKind.i64.wrap width1) - (IntKind.i64.wrap cells0))) else 0)) (
          .br ((IntKind.i64.wrap (c_6.1 + c_7.1)) == (if (IntKind.i64.wrap ((IntKind.i64.wrap width1) - (IntKind.i64.wrap cells0))) > 0 then (IntKind.i64.wrap ((IntKind.i64.wrap width1) - (IntKind.i64.wrap cells0))) else 0)) (
            .br (decide ((IntKind.i64.wrap (c_6.1 - c_7.1)) ≤ 1)) (
              .br (decide ((IntKind.i64.wrap (c_7.1 - c_6.1)) ≤ 1)) (
                .br (((IntKind.i64.wrap level2).tmod 2) == 0) (
                  .br (c_2.1 == c_4.1) (
                    .pure true) (
                    .br (((IntKind.i64.wrap level2).tmod 2) == 1) (
                      .pure (c_2.1 == c_5.1)) (
                      .pure false))) (
                  .br (((IntKind.i64.wrap level2).tmod 2) == 1) (
                    .pure (c_2.1 == c_5.1)) (
                    .pure false))) (
                .pure false)) (
              .pure false)) (
            .pure false)) (
          .pure false)) (
        .pure false)) (
      .pure false))
noncomputable def law34_AlignBoth_F (cells0 : Int) (width1 : Int) (level2 : Int) : Option Bool := (law34_AlignBoth_T cells0 width1 level2).run
def law34_AlignBoth_L : List (Nat × LoopAnn) := []
noncomputable def law34_AlignBoth_C : List (Nat × Callee) := [(20, .plain law34_awake_fun), (21, .plain align_Indent_fun)]
noncomputable def law34_AlignBoth_fun : Fun := ⟨[.int .u16, .int .u16, .int .u8], [.v .bool], fun x => law34_AlignBoth_F x.1 x.2.1 x.2.2.1⟩
theorem law34_AlignBoth_ev (x : Tys.I [.int .u16, .int .u16, .int .u8]) : evFun G0 (fun f => olook f law34_AlignBoth_C) ⟨[], [], []⟩ (fun i => olook i law34_AlignBoth_L) Try.f8 [.int .u16, .int .u16, .int .u8] [.v .bool] x = law34_AlignBoth_T x.1 x.2.1 x.2.2.1 := by kernel_rfl
theorem law34_AlignBoth_ok : FunOk Try.prog 8 law34_AlignBoth_fun := evFun_ok mixed ctx0 (cons_calls (fb := .plain law34_awake_fun) law34_awake_ok (fun h => by cases h) (cons_calls (fb := .plain align_Indent_fun) align_Indent_ok (fun h => by cases h) (no_calls))) Try.func8 (by kernel_rfl) _ (fun x => congrArg Tr.run (law34_AlignBoth_ev x)) (by kernel_rfl) (by kernel_rfl)
/-! ### boustrophedon/boustrophedonlaw22.Widths -/
noncomputable def law22_Widths_L3 (ns0 : List Int) (out3 : List Int) (k4 : Int) : Tr (Lap (List Int × List Int × Int) (List Int)) :=
  .br (decide (k4 < (ns0.length : Int))) (
    .bnd (idx ns0 k4) fun x_1 =>
    .bnd (app 17592186044416 out3 ([IntKind.i64.wrap (x_1.tmod 3)])) fun r_2 =>
    .pure (.next (ns0, r_2, IntKind.i64.wrap (k4 + 1)))) (
    .pure (.done out3))
noncomputable def law22_Widths_T (ns0 : List Int) : Tr (List Int) :=
  .bnd (loopW (fun s => (law22_Widths_L3 s.1 s.2.1 s.2.2).run) (ns0, [], 0)) fun l_3 =>
  .pure l_3
noncomputable def law22_Widths_F (ns0 : List Int) : Option (List Int) := (law22_Widths_T ns0).run
def law22_Widths_L : List (Nat × LoopAnn) := [(3, { head := [.sv 0 false (.sl (.int .u8)), .srow 3 1000003 3 true (.int .i64), .sv 4 true (.int .i64)], xid := 0, out := [.srow 3 1000003 3 true (.int .i64)], hasRet := false, res := [] })]
noncomputable def law22_Widths_C : List (Nat × Callee) := []
noncomputable def law22_Widths_fun : Fun := ⟨[.sl (.int .u8)], [.row 3 (.int .i64)], fun x => law22_Widths_F x.1⟩
theorem law22_Widths_ev (x : Tys.I [.sl (.int .u8)]) : evFun G0 (fun f => olook f law22_Widths_C) ⟨[], [], []⟩ (fun i => olook i law22_Widths_L) Try.f22 [.sl (.int .u8)] [.row 3 (.int .i64)] x = law22_Widths_T x.1 := by kernel_rfl
theorem law22_Widths_ok : FunOk Try.prog 22 law22_Widths_fun := evFun_ok mixed ctx0 (no_calls) Try.func22 (by kernel_rfl) _ (fun x => congrArg Tr.run (law22_Widths_ev x)) (by kernel_rfl) (by kernel_rfl)
/-! ### boustrophedon/cellw.Sum -/
noncomputable def cellw_Sum_L3 (sum3 : Int) (t6 : List Int) (t7 : Int) (t8 : Int) : Tr (Lap (Int × List Int × Int × Int) Int) :=
  .br (decide (t8 < t7)) (
    .bnd (idx t6 t8) fun x_1 =>
    .pure (.next (IntKind.i64.wrap (sum3 + x_1), t6, t7, IntKind.i64.wrap (t8 + 1)))) (
    .pure (.done sum3))
noncomputable def cellw_Sum_T (ws0 : List Int) : Tr Int :=
  .bnd (loopW (fun s => (cellw_Sum_L3 s.1 s.2.1 s.2.2.1 s.2.2.2).run) (0, ws0, (ws0.length : Int), 0)) fun l_2 =>
  .pure l_2
noncomputable def cellw_Sum_F (ws0 : List Int) : Option Int := (cellw_Sum_T ws0).run
def cellw_Sum_L : List (Nat × LoopAnn) := [(3, { head := [.sv 3 true (.int .i64), .sv 6 false (.sl (.int .i64)), .sv 7 true (.int .i64), .sv 8 true (.int .i64)], xid := 0, out := [.sv 3 true (.int .i64)], hasRet := false, res := [] })]
noncomputable def cellw_Sum_C : List (Nat × Callee) := []
noncomputable def cellw_Sum_fun : Fun := ⟨[.sl (.int .i64)], [.v (.int .i64)], fun x => cellw_Sum_F x.1⟩
theorem cellw_Sum_ev (x : Tys.I [.sl (.int .i64)]) : evFun G0 (fun f => olook f cellw_Sum_C) ⟨[], [], []⟩ (fun i => olook i cellw_Sum_L) Try.f24 [.sl (.int .i64)] [.v (.int .i64)] x = cellw_Sum_T x.1 := by kernel_rfl
theorem cellw_Sum_ok : FunOk Try.prog 24 cellw_Sum_fun := evFun_ok mixed ctx0 (no_calls) Try.func24 (by kernel_rfl) _ (fun x => congrArg Tr.run (cellw_Sum_ev x)) (by kernel_rfl) (by kernel_rfl)
/-! ### boustrophedon/boustrophedonlaw34.AlignJustify -/
noncomputable def law34_AlignJustify_L8 (grows1 : List Bool) (widths7 : List Int) (w8 : Int) (out9 : List Int) (n10 : Int) (t27 : Int) (t28 : Int) : Tr (Lap (List Bool × List Int × Int × List Int × Int × Int × Int) (List Bool × List Int × Int × List Int × Int)) :=
  .br (decide (t28 < t27)) (
    .br (decide (t28 < (grows1.length : Int))) (
      .bnd (idx grows1 t28) fun x_4 =>
      .br x_4 (
        .pure (.next (grows1, widths7, w8, out9, IntKind.i64.wrap (n10 + 1), t27, IntKind.i64.wrap (t28 + 1)))) (
        .pure (.next (grows1, widths7, w8, out9, n10, t27, IntKind.i64.wrap (t28 + 1))))) (
      .pure (.next (grows1, widths7, w8, out9, n10, t27, IntKind.i64.wrap (t28 + 1))))) (
    .pure (.done (grows1, widths7, w8, out9, n10)))
noncomputable def law34_AlignJustify_L20 (grows1 : List Bool) (widths7 : List Int) (w8 : Int) (out9 : List Int) (n10 : Int) (free12 : Int) (seen13 : Int) (t63 : Int) (t64 : Int) : Tr (Lap (List Bool × List Int × Int × List Int × Int × Int × Int × Int × Int) (Sum (Int × List Int) Bool)) :=
  .br (decide (t64 < t63)) (
    .bnd (idx widths7 t64) fun x_9 =>
    .br (decide (t64 < (grows1.length : Int))) (
      .bnd (idx grows1 t64) fun x_10 =>
      .br x_10 (
        .br (n10 != 0) (
          .br (n10 != 0) (
            .br (decide (seen13 < (free12.tmod n10))) (
              .bnd (idx out9 t64) fun x_11 =>
              .br (x_11 != (IntKind.i64.wrap ((IntKind.i64.wrap (x_9 + (IntKind.i64.wrap (free12.tdiv n10)))) + 1))) (
                .pure (.done (.inr false))) (
                .pure (.next (grows1, widths7, w8, out9, n10, free12, IntKind.i64.wrap (seen13 + 1), t63, IntKind.i64.wrap (t64 + 1))))) (
              .bnd (idx out9 t64) fun x_12 =>
              .br (x_12 != (IntKind.i64.wrap (x_9 + (IntKind.i64.wrap (free12.tdiv n10))))) (
                .pure (.done (.inr false))) (
                .pure (.next (grows1, widths7, w8, out9, n10, free12, IntKind.i64.wrap (seen13 + 1), t63, IntKind.i64.wrap (t64 + 1)))))) (
            .fail)) (
          .fail)) (
        .bnd (idx out9 t64) fun x_13 =>
        .br (x_13 != x_9) (
          .pure (.done (.inr false))) (
          .pure (.next (grows1, widths7, w8, out9, n10, free12, seen13, t63, IntKind.i64.wrap (t64 + 1)))))) (
      .bnd (idx out9 t64) fun x_14 =>
      .br (x_14 != x_9) (
        .pure (.done (.inr false))) (
        .pure (.next (grows1, widths7, w8, out9, n10, free12, seen13, t63, IntKind.i64.wrap (t64 + 1)))))) (
    .pure (.done (.inl (w8, out9))))
noncomputable def law34_AlignJustify_T (ws0 : List Int) (grows1 : List Bool) (width2 : Int) : Tr Bool :=
  .bnd law34_awake_F fun c_1 =>
  .br (!c_1) (
    .pure false) (
    .bnd (law22_Widths_F ws0) fun c_2 =>
    .bnd (align_Justify_F c_2 grows1 (IntKind.i64.wrap width2)) fun c_3 =>
    .bnd (loopW (fun s => (law34_AlignJustify_L8 s.1 s.2.1 s.2.2.1 s.2.2.2.1 s.2.2.2.2.1 s.2.2.2.2.2.1 s.2.2.2.2.2.2).run) (grows1, c_2, IntKind.i64.wrap width2, c_3, 0, (c_2.length : Int), 0)) fun l_5 =>
    .bnd (cellw_Sum_F l_5.2.1) fun c_6 =>
    .br ((l_5.2.2.2.1.length : Int) != (l_5.2.1.length : Int)) (
      .pure false) (
      .br (decide ((IntKind.i64.wrap (l_5.2.2.1 - c_6)) ≤ 0)) (
        .bnd (law25_Same_F l_5.2.2.2.1 l_5.2.1) fun c_7 =>
        .pure c_7) (
        .br (l_5.2.2.2.2 == 0) (
          .bnd (law25_Same_F l_5.2.2.2.1 l_5.2.1) fun c_8 =>
          .pure c_8) (
          .alt (loopW (fun s => (law34_AlignJustify_L20 s.1 s.2.1 s.2.2.1 s.2.2.2.1 s.2.2.2.2.1 s.2.2.2.2.2.1 s.2.2.2.2.2.2.1 s.2.2.2.2.2.2.2.1 s.2.2.2.2.2.2.2.2).run) (l_5.1, l_5.2.1, l_5.2.2.1, l_5.2.2.2.1, l_5.2.2.2.2, IntKind.i64.wrap (l_5.2.2.1 - c_6), 0, (l_5.2.1.length : Int), 0)) (fun l_15 =>
            .bnd (cellw_Sum_F l_15.2) fun c_16 =>
            .pure (c_16 == l_15.1)) (fun l_17 =>
            .pure l_17)))))
noncomputable def law34_AlignJustify_F (ws0 : List Int) (grows1 : List Bool) (width2 : Int) : Option Bool := (law34_AlignJustify_T ws0 grows1 width2).run
def law34_AlignJustify_L : List (Nat × LoopAnn) := [(8, { head := [.sv 1 false (.sl .bool), .srow 7 1000007 3 true (.int .i64), .sv 8 true (.int .i64), .srow 9 1000009 3 true (.int .i64), .sv 10 true (.int .i64), .sv 27 true (.int .i64), .sv 28 true (.int .i64)], xid := 0, out := [.sv 1 false (.sl .bool), .srow 7 1000007 3 true (.int .i64), .sv 8 true (.int .i64), .srow 9 1000009 3 true (.int .i64), .sv 10 true (.int .i64)], hasRet := false, res := [] }), (20, { head := [.sv 1 false (.sl .bool), .srow 7 1000007 3 true (.int .i64), .sv 8 true (.int .i64), .srow 9 1000009 3 true (.int .i64), .sv 10 true (.int .i64), .sv 12 true (.int .i64), .sv 13 true (.int .i64), .sv 63 true (.int .i64), .sv 64 true (.int .i64)], xid := 2, out := [.sv 8 true (.int .i64), .srow 9 1000009 3 true (.int .i64)], hasRet := true, res := [.sv 6 true .bool] })]
noncomputable def law34_AlignJustify_C : List (Nat × Callee) := [(20, .plain law34_awake_fun), (22, .plain law22_Widths_fun), (23, .plain align_Justify_fun), (24, .plain cellw_Sum_fun), (16, .plain law25_Same_fun)]
noncomputable def law34_AlignJustify_fun : Fun := ⟨[.sl (.int .u8), .sl .bool, .int .u8], [.v .bool], fun x => law34_AlignJustify_F x.1 x.2.1 x.2.2.1⟩
theorem law34_AlignJustify_ev (x : Tys.I [.sl (.int .u8), .sl .bool, .int .u8]) : evFun G0 (fun f => olook f law34_AlignJustify_C) ⟨[], [], []⟩ (fun i => olook i law34_AlignJustify_L) Try.f9 [.sl (.int .u8), .sl .bool, .int .u8] [.v .bool] x = law34_AlignJustify_T x.1 x.2.1 x.2.2.1 := by kernel_rfl
theorem law34_AlignJustify_ok : FunOk Try.prog 9 law34_AlignJustify_fun := evFun_ok mixed ctx0 (cons_calls (fb := .plain law34_awake_fun) law34_awake_ok (fun h => by cases h) (cons_calls (fb := .plain law22_Widths_fun) law22_Widths_ok (fun h => by cases h) (cons_calls (fb := .plain align_Justify_fun) align_Justify_ok (fun h => by cases h) (cons_calls (fb := .plain cellw_Sum_fun) cellw_Sum_ok (fun h => by cases h) (cons_calls (fb := .plain law25_Same_fun) law25_Same_ok (fun h => by cases h) (no_calls)))))) Try.func9 (by kernel_rfl) _ (fun x => congrArg Tr.run (law34_AlignJustify_ev x)) (by kernel_rfl) (by kernel_rfl)
/-! ### boustrophedon/boustrophedonlaw34.AlignTwice -/
noncomputable def law34_AlignTwice_T (ws0 : List Int) (grows1 : List Bool) (width2 : Int) : Tr Bool :=
  .bnd law34_awake_F fun c_1 =>
  .br (!c_1) (
    .pure false) (
    .bnd (law22_Widths_F ws0) fun c_2 =>
    .bnd (align_Justify_F c_2 grows1 (IntKind.i64.wrap width2)) fun c_3 =>
    .bnd (align_Justify_F c_3 grows1 (IntKind.i64.wrap width2)) fun c_4 =>
    .bnd (law25_Same_F c_4 c_3) fun c_5 =>
    .br c_5 (
      .bnd (cellw_Sum_F c_2) fun c_6 =>
      .bnd (align_Justify_F c_2 grows1 (IntKind.i64.wrap (c_6 - (IntKind.i64.wrap width2)))) fun c_7 =>
      .bnd (law25_Same_F c_7 c_2) fun c_8 =>
      .pure c_8) (
      .pure false))
noncomputable def law34_AlignTwice_F (ws0 : List Int) (grows1 : List Bool) (width2 : Int) : Option Bool := (law34_AlignTwice_T ws0 grows1 width2).run
def law34_AlignTwice_L : List (Nat × LoopAnn) := []
noncomputable def law34_AlignTwice_C : List (Nat × Callee) := [(20, .plain law34_awake_fun), (22, .plain law22_Widths_fun), (23, .plain align_Justify_fun), (16, .plain law25_Same_fun), (24, .plain cellw_Sum_fun)]
noncomputable def law34_AlignTwice_fun : Fun := ⟨[.sl (.int .u8), .sl .bool, .int .u8], [.v .bool], fun x => law34_AlignTwice_F x.1 x.2.1 x.2.2.1⟩
theorem law34_AlignTwice_ev (x : Tys.I [.sl (.int .u8), .sl .bool, .int .u8]) : evFun G0 (fun f => olook f law34_AlignTwice_C) ⟨[], [], []⟩ (fun i => olook i law34_AlignTwice_L) Try.f10 [.sl (.int .u8), .sl .bool, .int .u8] [.v .bool] x = law34_AlignTwice_T x.1 x.2.1 x.2.2.1 := by kernel_rfl
theorem law34_AlignTwice_ok : FunOk Try.prog 10 law34_AlignTwice_fun := evFun_ok mixed ctx0 (cons_calls (fb := .plain law34_awake_fun) law34_awake_ok (fun h => by cases h) (cons_calls (fb := .plain law22_Widths_fun) law22_Widths_ok (fun h => by cases h) (cons_calls (fb := .plain align_Justify_fun) align_Justify_ok (fun h => by cases h) (cons_calls (fb := .plain law25_Same_fun) law25_Same_ok (fun h => by cases h) (cons_calls (fb := .plain cellw_Sum_fun) cellw_Sum_ok (fun h => by cases h) (no_calls)))))) Try.func10 (by kernel_rfl) _ (fun x => congrArg Tr.run (law34_AlignTwice_ev x)) (by kernel_rfl) (by kernel_rfl)
/-! ### boustrophedon/cells.Starts -/
noncomputable def cells_Starts_L4 (starts4 : List Int) (sum5 : Int) (t11 : List Int) (t12 : Int) (t13 : Int) : Tr (Lap (List Int × Int × List Int × Int × Int) (List Int × Int)) :=
  .br (decide (t13 < t12)) (
    .bnd (idx t11 t13) fun x_2 =>
    .bnd (idx starts4 t13) fun x_3 =>
    .pure (.next (starts4.set (Int.toNat t13) sum5, IntKind.i64.wrap (sum5 + x_2), t11, t12, IntKind.i64.wrap (t13 + 1)))) (
    .pure (.done (starts4, sum5)))
noncomputable def cells_Starts_T (widths0 : List Int) : Tr (List Int × Int) :=
  .bnd (mk 17592186044416 0 (widths0.length : Int)) fun r_1 =>
  .bnd (loopW (fun s => (cells_Starts_L4 s.1 s.2.1 s.2.2.1 s.2.2.2.1 s.2.2.2.2).run) (r_1, 0, widths0, (widths0.length : Int), 0)) fun l_4 =>
  .pure (l_4.1, l_4.2)
noncomputable def cells_Starts_F (widths0 : List Int) : Option (List Int × Int) := (cells_Starts_T widths0).run
def cells_Starts_L : List (Nat × LoopAnn) := [(4, { head := [.srow 4 1000004 3 true (.int .i64), .sv 5 true (.int .i64), .sv 11 false (.sl (.int .i64)), .sv 12 true (.int .i64), .sv 13 true (.int .i64)], xid := 0, out := [.srow 4 1000004 3 true (.int .i64), .sv 5 true (.int .i64)], hasRet := false, res := [] })]
noncomputable def cells_Starts_C : List (Nat × Callee) := []
noncomputable def cells_Starts_fun : Fun := ⟨[.sl (.int .i64)], [.row 3 (.int .i64), .v (.int .i64)], fun x => cells_Starts_F x.1⟩
theorem cells_Starts_ev (x : Tys.I [.sl (.int .i64)]) : evFun G0 (fun f => olook f cells_Starts_C) ⟨[], [], []⟩ (fun i => olook i cells_Starts_L) Try.f37 [.sl (.int .i64)] [.row 3 (.int .i64), .v (.int .i64)] x = cells_Starts_T x.1 := by kernel_rfl
theorem cells_Starts_ok : FunOk Try.prog 37 cells_Starts_fun := evFun_ok mixed ctx0 (no_calls) Try.func37 (by kernel_rfl) _ (fun x => congrArg Tr.run (cells_Starts_ev x)) (by kernel_rfl) (by kernel_rfl)
/-! ### boustrophedon/selects.Bands -/
noncomputable def selects_Bands_L5 (widths1 : List Int) (from2 : Int) (to3 : Int) (starts10 : List Int) (bands12 : List (Int × Int)) (t32 : List Int) (t33 : Int) (t34 : Int) : Tr (Lap (List Int × Int × Int × List Int × (List (Int × Int)) × List Int × Int × Int) (List (Int × Int))) :=
  .br (decide (t34 < t33)) (
    .bnd (idx t32 t34) fun x_4 =>
    .bnd (idx widths1 t34) fun x_5 =>
    .br (decide (x_5 ≤ 0)) (
      .pure (.next (widths1, from2, to3, starts10, bands12, t32, t33, IntKind.i64.wrap (t34 + 1)))) (
      .br (decide (x_4 < from2)) (
        .pure (.next (widths1, from2, to3, starts10, bands12, t32, t33, IntKind.i64.wrap (t34 + 1)))) (
        .br (decide (x_4 ≥ to3)) (
          .pure (.next (widths1, from2, to3, starts10, bands12, t32, t33, IntKind.i64.wrap (t34 + 1)))) (
          .bnd (idx starts10 t34) fun x_6 =>
          .bnd (idx starts10 t34) fun x_7 =>
          .bnd (idx widths1 t34) fun x_8 =>
          .br (decide ((IntKind.i64.wrap ((bands12.length : Int) - 1)) ≥ 0)) (
            .bnd (idx bands12 (IntKind.i64.wrap ((bands12.length : Int) - 1))) fun x_9 =>
            .br (x_9.2 == x_6) (
              .bnd (idx bands12 (IntKind.i64.wrap ((bands12.length : Int) - 1))) fun x_10 =>
              .bnd (idx bands12 (IntKind.i64.wrap ((bands12.length : Int) - 1))) fun x_11 =>
              .pure (.next (widths1, from2, to3, starts10, bands12.set (Int.toNat (IntKind.i64.wrap ((bands12.length : Int) - 1))) (x_11.1, IntKind.i64.wrap (x_7 + x_8)), t32, t33, IntKind.i64.wrap (t34 + 1)))) (
              .bnd (app 8796093022208 bands12 ([(x_6, IntKind.i64.wrap (x_7 + x_8))])) fun r_12 =>
              .pure (.next (widths1, from2, to3, starts10, r_12, t32, t33, IntKind.i64.wrap (t34 + 1))))) (
            .bnd (app 8796093022208 bands12 ([(x_6, IntKind.i64.wrap (x_7 + x_8))])) fun r_13 =>
            .pure (.next (widths1, from2, to3, starts10, r_13, t32, t33, IntKind.i64.wrap (t34 + 1)))))))) (
    .pure (.done bands12))
noncomputable def selects_Bands_T (visual0 : List Int) (widths1 : List Int) (from2 : Int) (to3 : Int) : Tr (List (Int × Int)) :=
  .bnd (cut widths1 0 (if (widths1.length : Int) < (visual0.length : Int) then (widths1.length : Int) else (visual0.length : Int))) fun r_1 =>
  .bnd (cells_Starts_F r_1) fun c_2 =>
  .bnd (cut visual0 0 (if (widths1.length : Int) < (visual0.length : Int) then (widths1.length : Int) else (visual0.length : Int))) fun r_3 =>
  .bnd (loopW (fun s => (selects_Bands_L5 s.1 s.2.1 s.2.2.1 s.2.2.2.1 s.2.2.2.2.1 s.2.2.2.2.2.1 s.2.2.2.2.2.2.1 s.2.2.2.2.2.2.2).run) (widths1, from2, to3, c_2.1, [], r_3, (r_3.length : Int), 0)) fun l_14 =>
  .pure l_14
noncomputable def selects_Bands_F (visual0 : List Int) (widths1 : List Int) (from2 : Int) (to3 : Int) : Option (List (Int × Int)) := (selects_Bands_T visual0 widths1 from2 to3).run
def selects_Bands_L : List (Nat × LoopAnn) := [(5, { head := [.sv 1 false (.sl (.int .i64)), .sv 2 false (.int .i64), .sv 3 false (.int .i64), .srow 10 1000010 3 true (.int .i64), .srow 12 1000012 51 true (.st (.pair (.int .i64) (.int .i64))), .sv 32 false (.sl (.int .i64)), .sv 33 true (.int .i64), .sv 34 true (.int .i64)], xid := 0, out := [.srow 12 1000012 51 true (.st (.pair (.int .i64) (.int .i64)))], hasRet := false, res := [] })]
noncomputable def selects_Bands_C : List (Nat × Callee) := [(37, .plain cells_Starts_fun)]
noncomputable def selects_Bands_fun : Fun := ⟨[.sl (.int .i64), .sl (.int .i64), .int .i64, .int .i64], [.row 51 (.st (.pair (.int .i64) (.int .i64)))], fun x => selects_Bands_F x.1 x.2.1 x.2.2.1 x.2.2.2.1⟩
theorem selects_Bands_ev (x : Tys.I [.sl (.int .i64), .sl (.int .i64), .int .i64, .int .i64]) : evFun G0 (fun f => olook f selects_Bands_C) ⟨[], [], []⟩ (fun i => olook i selects_Bands_L) Try.f28 [.sl (.int .i64), .sl (.int .i64), .int .i64, .int .i64] [.row 51 (.st (.pair (.int .i64) (.int .i64)))] x = selects_Bands_T x.1 x.2.1 x.2.2.1 x.2.2.2.1 := by kernel_rfl
theorem selects_Bands_ok : FunOk Try.prog 28 selects_Bands_fun := evFun_ok mixed ctx0 (cons_calls (fb := .plain cells_Starts_fun) cells_Starts_ok (fun h => by cases h) (no_calls)) Try.func28 (by kernel_rfl) _ (fun x => congrArg Tr.run (selects_Bands_ev x)) (by kernel_rfl) (by kernel_rfl)
/-! ### boustrophedon/selects.Places -/
noncomputable def selects_Places_L5 (widths1 : List Int) (from2 : Int) (to3 : Int) (n9 : Int) (starts10 : List Int) (met12 : List Bool) (t36 : List Int) (t37 : Int) (t38 : Int) : Tr (Lap (List Int × Int × Int × Int × List Int × List Bool × List Int × Int × Int) (List Bool)) :=
  .br (decide (t38 < t37)) (
    .bnd (idx t36 t38) fun x_5 =>
    .bnd (idx starts10 t38) fun x_6 =>
    .bnd (idx starts10 t38) fun x_7 =>
    .bnd (idx widths1 t38) fun x_8 =>
    .br (decide (0 ≤ x_5)) (
      .br (decide (x_5 < n9)) (
        .br (decide ((if from2 > x_6 then from2 else x_6) < (if to3 < (IntKind.i64.wrap (x_7 + x_8)) then to3 else (IntKind.i64.wrap (x_7 + x_8))))) (
          .bnd (idx met12 x_5) fun x_9 =>
          .pure (.next (widths1, from2, to3, n9, starts10, met12.set (Int.toNat x_5) true, t36, t37, IntKind.i64.wrap (t38 + 1)))) (
          .pure (.next (widths1, from2, to3, n9, starts10, met12, t36, t37, IntKind.i64.wrap (t38 + 1))))) (
        .pure (.next (widths1, from2, to3, n9, starts10, met12, t36, t37, IntKind.i64.wrap (t38 + 1))))) (
      .pure (.next (widths1, from2, to3, n9, starts10, met12, t36, t37, IntKind.i64.wrap (t38 + 1))))) (
    .pure (.done met12))
noncomputable def selects_Places_L13 (places17 : List Int) (t76 : List Bool) (t77 : Int) (t78 : Int) : Tr (Lap (List Int × List Bool × Int × Int) (List Int)) :=
  .br (decide (t78 < t77)) (
    .bnd (idx t76 t78) fun x_11 =>
    .br x_11 (
      .bnd (app 17592186044416 places17 ([t78])) fun r_12 =>
      .pure (.next (r_12, t76, t77, IntKind.i64.wrap (t78 + 1)))) (
      .pure (.next (places17, t76, t77, IntKind.i64.wrap (t78 + 1))))) (
    .pure (.done places17))
noncomputable def selects_Places_T (visual0 : List Int) (widths1 : List Int) (from2 : Int) (to3 : Int) : Tr (List Int) :=
  .bnd (cut widths1 0 (if (widths1.length : Int) < (visual0.length : Int) then (widths1.length : Int) else (visual0.length : Int))) fun r_1 =>
  .bnd (cells_Starts_F r_1) fun c_2 =>
  .bnd (mk 140737488355328 false (if (widths1.length : Int) < (visual0.length : Int) then (widths1.length : Int) else (visual0.length : Int))) fun r_3 =>
  .bnd (cut visual0 0 (if (widths1.length : Int) < (visual0.length : Int) then (widths1.length : Int) else (visual0.length : Int))) fun r_4 =>
  .bnd (loopW (fun s => (selects_Places_L5 s.1 s.2.1 s.2.2.1 s.2.2.2.1 s.2.2.2.2.1 s.2.2.2.2.2.1 s.2.2.2.2.2.2.1 s.2.2.2.2.2.2.2.1 s.2.2.2.2.2.2.2.2).run) (widths1, from2, to3, if (widths1.length : Int) < (visual0.length : Int) then (widths1.length : Int) else (visual0.length : Int), c_2.1, r_3, r_4, (r_4.length : Int), 0)) fun l_10 =>
  .bnd (loopW (fun s => (selects_Places_L13 s.1 s.2.1 s.2.2.1 s.2.2.2).run) ([], l_10, (l_10.length : Int), 0)) fun l_13 =>
  .pure l_13
noncomputable def selects_Places_F (visual0 : List Int) (widths1 : List Int) (from2 : Int) (to3 : Int) : Option (List Int) := (selects_Places_T visual0 widths1 from2 to3).run
def selects_Places_L : List (Nat × LoopAnn) := [(5, { head := [.sv 1 false (.sl (.int .i64)), .sv 2 false (.int .i64), .sv 3 false (.int .i64), .sv 9 true (.int .i64), .srow 10 1000010 3 true (.int .i64), .srow 12 1000012 4 true .bool, .sv 36 false (.sl (.int .i64)), .sv 37 true (.int .i64), .sv 38 true (.int .i64)], xid := 0, out := [.srow 12 1000012 4 true .bool], hasRet := false, res := [] }), (13, { head := [.srow 17 1000017 3 true (.int .i64), .srow 76 1000076 4 true .bool, .sv 77 true (.int .i64), .sv 78 true (.int .i64)], xid := 2, out := [.srow 17 1000017 3 true (.int .i64)], hasRet := false, res := [] })]
noncomputable def selects_Places_C : List (Nat × Callee) := [(37, .plain cells_Starts_fun)]
noncomputable def selects_Places_fun : Fun := ⟨[.sl (.int .i64), .sl (.int .i64), .int .i64, .int .i64], [.row 3 (.int .i64)], fun x => selects_Places_F x.1 x.2.1 x.2.2.1 x.2.2.2.1⟩
theorem selects_Places_ev (x : Tys.I [.sl (.int .i64), .sl (.int .i64), .int .i64, .int .i64]) : evFun G0 (fun f => olook f selects_Places_C) ⟨[], [], []⟩ (fun i => olook i selects_Places_L) Try.f30 [.sl (.int .i64), .sl (.int .i64), .int .i64, .int .i64] [.row 3 (.int .i64)] x = selects_Places_T x.1 x.2.1 x.2.2.1 x.2.2.2.1 := by kernel_rfl
theorem selects_Places_ok : FunOk Try.prog 30 selects_Places_fun := evFun_ok mixed ctx0 (cons_calls (fb := .plain cells_Starts_fun) cells_Starts_ok (fun h => by cases h) (no_calls)) Try.func30 (by kernel_rfl) _ (fun x => congrArg Tr.run (selects_Places_ev x)) (by kernel_rfl) (by kernel_rfl)
/-! ### boustrophedon/boustrophedonlaw35.awake -/
noncomputable def law35_awake_T : Tr Bool :=
  .bnd (selects_Bands_F ([0, 2, 1, 3]) ([1, 1, 1, 1]) 1 3) fun c_1 =>
  .bnd (selects_Bands_F ([0, 2, 1, 3]) ([1, 1, 1, 1]) 0 2) fun c_2 =>
  .br ((c_1.length : Int) == 1) (
    .bnd (idx c_1 0) fun x_3 =>
    .br ((x_3.1 == 1) && (x_3.2 == 3)) (
      .br ((c_2.length : Int) == 2) (
        .bnd (idx c_2 1) fun x_4 =>
        .br ((x_4.1 == 2) && (x_4.2 == 3)) (
          .bnd (selects_Places_F ([0, 2, 1, 3]) ([1, 1, 1, 1]) 1 2) fun c_5 =>
          .bnd (law25_Same_F c_5 ([2])) fun c_6 =>
          .pure c_6) (
          .pure false)) (
        .pure false)) (
      .pure false)) (
    .pure false)
noncomputable def law35_awake_F : Option Bool := (law35_awake_T).run
def law35_awake_L : List (Nat × LoopAnn) := []
noncomputable def law35_awake_C : List (Nat × Callee) := [(28, .plain selects_Bands_fun), (30, .plain selects_Places_fun), (16, .plain law25_Same_fun)]
noncomputable def law35_awake_fun : Fun := ⟨[], [.v .bool], fun _ => law35_awake_F⟩
theorem law35_awake_ev (x : Tys.I []) : evFun G0 (fun f => olook f law35_awake_C) ⟨[], [], []⟩ (fun i => olook i law35_awake_L) Try.f25 [] [.v .bool] x = law35_awake_T := by kernel_rfl
theorem law35_awake_ok : FunOk Try.prog 25 law35_awake_fun := evFun_ok mixed ctx0 (cons_calls (fb := .plain selects_Bands_fun) selects_Bands_ok (fun h => by cases h) (cons_calls (fb := .plain selects_Places_fun) selects_Places_ok (fun h => by cases h) (cons_calls (fb := .plain law25_Same_fun) law25_Same_ok (fun h => by cases h) (no_calls)))) Try.func25 (by kernel_rfl) _ (fun x => congrArg Tr.run (law35_awake_ev x)) (by kernel_rfl) (by kernel_rfl)
/-! ### boustrophedon/boustrophedonlaw12.Levels -/
noncomputable def law12_Levels_L3 (ns0 : List Int) (out3 : List Int) (k4 : Int) : Tr (Lap (List Int × List Int × Int) (List Int)) :=
  .br (decide (k4 < (ns0.length : Int))) (
    .bnd (idx ns0 k4) fun x_1 =>
    .br ((x_1.tmod 8) == 7) (
      .bnd (app 17592186044416 out3 ([(-1)])) fun r_2 =>
      .pure (.next (ns0, r_2, IntKind.i64.wrap (k4 + 1)))) (
      .bnd (idx ns0 k4) fun x_3 =>
      .bnd (app 17592186044416 out3 ([(IntKind.i64.wrap (IntKind.u8.wrap (x_3.tdiv 8))).tmod 6])) fun r_4 =>
      .pure (.next (ns0, r_4, IntKind.i64.wrap (k4 + 1))))) (
    .pure (.done out3))
noncomputable def law12_Levels_T (ns0 : List Int) : Tr (List Int) :=
  .bnd (loopW (fun s => (law12_Levels_L3 s.1 s.2.1 s.2.2).run) (ns0, [], 0)) fun l_5 =>
  .pure l_5
noncomputable def law12_Levels_F (ns0 : List Int) : Option (List Int) := (law12_Levels_T ns0).run
def law12_Levels_L : List (Nat × LoopAnn) := [(3, { head := [.sv 0 false (.sl (.int .u8)), .srow 3 1000003 3 true (.int .i64), .sv 4 true (.int .i64)], xid := 0, out := [.srow 3 1000003 3 true (.int .i64)], hasRet := false, res := [] })]
noncomputable def law12_Levels_C : List (Nat × Callee) := []
noncomputable def law12_Levels_fun : Fun := ⟨[.sl (.int .u8)], [.row 3 (.int .i64)], fun x => law12_Levels_F x.1⟩
theorem law12_Levels_ev (x : Tys.I [.sl (.int .u8)]) : evFun G0 (fun f => olook f law12_Levels_C) ⟨[], [], []⟩ (fun i => olook i law12_Levels_L) Try.f15 [.sl (.int .u8)] [.row 3 (.int .i64)] x = law12_Levels_T x.1 := by kernel_rfl
theorem law12_Levels_ok : FunOk Try.prog 15 law12_Levels_fun := evFun_ok mixed ctx0 (no_calls) Try.func15 (by kernel_rfl) _ (fun x => congrArg Tr.run (law12_Levels_ev x)) (by kernel_rfl) (by kernel_rfl)
/-! ### slices.Reverse[[]int,int] -/
noncomputable def slices_Reverse___int_int__L1 (s0 : List Int) (i2 : Int) (j3 : Int) : Tr (Lap (List Int × Int × Int) (List Int)) :=
  .br (decide (i2 < j3)) (
    .bnd (idx s0 j3) fun _ =>
    .bnd (idx s0 j3) fun x_2 =>
    .bnd (idx s0 i2) fun _ =>
    .bnd (idx s0 i2) fun x_4 =>
    .bnd (idx s0 i2) fun _ =>
    .bnd (idx s0 i2) fun _ =>
    .bnd (idx (s0.set (Int.toNat i2) x_2) j3) fun _ =>
    .bnd (idx (s0.set (Int.toNat i2) x_2) j3) fun _ =>
    .pure (.next ((s0.set (Int.toNat i2) x_2).set (Int.toNat j3) x_4, IntKind.i64.wrap (i2 + 1), IntKind.i64.wrap (j3 - 1)))) (
    .pure (.done s0))
noncomputable def slices_Reverse___int_int__T (s0 : List Int) : Tr (List Int × Unit) :=
  .bnd (loopW (fun s => (slices_Reverse___int_int__L1 s.1 s.2.1 s.2.2).run) (s0, 0, IntKind.i64.wrap ((s0.length : Int) - 1))) fun l_7 =>
  .pure (l_7, ())
noncomputable def slices_Reverse___int_int__F (s0 : List Int) : Option (List Int × Unit) := (slices_Reverse___int_int__T s0).run
def slices_Reverse___int_int__L : List (Nat × LoopAnn) := [(1, { head := [.slrow 0 3 (.int .i64), .sv 2 true (.int .i64), .sv 3 true (.int .i64)], xid := 0, out := [.slrow 0 3 (.int .i64)], hasRet := false, res := [] })]
noncomputable def slices_Reverse___int_int__C : List (Nat × Callee) := []
noncomputable def slices_Reverse___int_int__fun : LFun := ⟨3, (.int .i64), [], [], fun s _ => slices_Reverse___int_int__F s⟩
theorem slices_Reverse___int_int__ev (s : List Int) (x : Tys.I []) : evFunL G0 (fun f => olook f slices_Reverse___int_int__C) ⟨[], [], []⟩ (fun i => olook i slices_Reverse___int_int__L) Try.f38 3 (.int .i64) [] [] s x = slices_Reverse___int_int__T s := by kernel_rfl
theorem slices_Reverse___int_int__ok : LentOk Try.prog 38 slices_Reverse___int_int__fun := evFunL_ok mixed ctx0 (no_calls) Try.func38 (by kernel_rfl) rfl _ (fun s x => congrArg Tr.run (slices_Reverse___int_int__ev s x)) (by kernel_rfl)
/-! ### boustrophedon/order.reverse -/
noncomputable def order_reverse_L3 (visual0 : List Int) (levels1 : List Int) (level2 : Int) (from6 : Int) (to7 : Int) : Tr (Lap (List Int × List Int × Int × Int × Int) (List Int × List Int × Int × Int × Int)) :=
  .br (decide (to7 < (visual0.length : Int))) (
    .bnd (idx visual0 to7) fun _ =>
    .bnd (idx visual0 to7) fun x_2 =>
    .bnd (idx levels1 x_2) fun x_3 =>
    .br (decide (x_3 ≥ level2)) (
      .pure (.next (visual0, levels1, level2, from6, IntKind.i64.wrap (to7 + 1)))) (
      .pure (.done (visual0, levels1, level2, from6, to7)))) (
    .pure (.done (visual0, levels1, level2, from6, to7)))
noncomputable def order_reverse_L1 (visual0 : List Int) (levels1 : List Int) (level2 : Int) (from6 : Int) : Tr (Lap (List Int × List Int × Int × Int) (List Int)) :=
  .br (decide (from6 < (visual0.length : Int))) (
    .bnd (loopW (fun s => (order_reverse_L3 s.1 s.2.1 s.2.2.1 s.2.2.2.1 s.2.2.2.2).run) (visual0, levels1, level2, from6, from6)) fun l_4 =>
    .bnd (cut l_4.1 l_4.2.2.2.1 l_4.2.2.2.2) fun r_5 =>
    .bnd (slices_Reverse___int_int__F ((l_4.1.drop ((l_4.2.2.2.1).toNat)).take r_5.length)) fun c_6 =>
    .pure (.next (splice' l_4.1 ((l_4.2.2.2.1).toNat) r_5.length c_6.1, l_4.2.1, l_4.2.2.1, IntKind.i64.wrap (l_4.2.2.2.2 + 1)))) (
    .pure (.done visual0))
noncomputable def order_reverse_T (visual0 : List Int) (levels1 : List Int) (level2 : Int) : Tr (List Int × Unit) :=
  .bnd (loopW (fun s => (order_reverse_L1 s.1 s.2.1 s.2.2.1 s.2.2.2).run) (visual0, levels1, level2, 0)) fun l_7 =>
  .pure (l_7, ())
noncomputable def order_reverse_F (visual0 : List Int) (levels1 : List Int) (level2 : Int) : Option (List Int × Unit) := (order_reverse_T visual0 levels1 level2).run
def order_reverse_L : List (Nat × LoopAnn) := [(3, { head := [.slrow 0 3 (.int .i64), .sv 1 false (.sl (.int .i64)), .sv 2 false (.int .i64), .sv 6 true (.int .i64), .sv 7 true (.int .i64)], xid := 2, out := [.slrow 0 3 (.int .i64), .sv 1 false (.sl (.int .i64)), .sv 2 false (.int .i64), .sv 6 true (.int .i64), .sv 7 true (.int .i64)], hasRet := false, res := [] }), (1, { head := [.slrow 0 3 (.int .i64), .sv 1 false (.sl (.int .i64)), .sv 2 false (.int .i64), .sv 6 true (.int .i64)], xid := 0, out := [.slrow 0 3 (.int .i64)], hasRet := false, res := [] })]
noncomputable def order_reverse_C : List (Nat × Callee) := [(38, .lent slices_Reverse___int_int__fun)]
noncomputable def order_reverse_fun : LFun := ⟨3, (.int .i64), [.sl (.int .i64), .int .i64], [], fun s x => order_reverse_F s x.1 x.2.1⟩
theorem order_reverse_ev (s : List Int) (x : Tys.I [.sl (.int .i64), .int .i64]) : evFunL G0 (fun f => olook f order_reverse_C) ⟨[], [], [38]⟩ (fun i => olook i order_reverse_L) Try.f31 3 (.int .i64) [.sl (.int .i64), .int .i64] [] s x = order_reverse_T s x.1 x.2.1 := by kernel_rfl
theorem order_reverse_ok : LentOk Try.prog 31 order_reverse_fun := evFunL_ok mixed ctx0 (cons_calls (fb := .lent slices_Reverse___int_int__fun) slices_Reverse___int_int__ok (fun h => by rfl) (no_calls)) Try.func31 (by kernel_rfl) rfl _ (fun s x => congrArg Tr.run (order_reverse_ev s x)) (by kernel_rfl)
/-! ### boustrophedon/order.Visual -/
noncomputable def order_Visual_L4 (levels0 : List Int) (visual3 : List Int) (top4 : Int) (t8 : List Int) (t9 : Int) (t10 : Int) : Tr (Lap (List Int × List Int × Int × List Int × Int × Int) (List Int × List Int × Int)) :=
  .br (decide (t10 < t9)) (
    .bnd (idx t8 t10) fun x_1 =>
    .br (x_1 != (-1)) (
      .bnd (app 17592186044416 visual3 ([t10])) fun r_2 =>
      .pure (.next (levels0, r_2, if (if 126 < x_1 then 126 else x_1) > top4 then (if 126 < x_1 then 126 else x_1) else top4, t8, t9, IntKind.i64.wrap (t10 + 1)))) (
      .pure (.next (levels0, visual3, top4, t8, t9, IntKind.i64.wrap (t10 + 1))))) (
    .pure (.done (levels0, visual3, top4)))
noncomputable def order_Visual_L11 (levels0 : List Int) (visual3 : List Int) (level7 : Int) : Tr (Lap (List Int × List Int × Int) (List Int)) :=
  .br (decide (level7 > 0)) (
    .bnd (order_reverse_F visual3 levels0 level7) fun c_4 =>
    .pure (.next (levels0, c_4.1, IntKind.i64.wrap (level7 - 1)))) (
    .pure (.done visual3))
noncomputable def order_Visual_T (levels0 : List Int) : Tr (List Int) :=
  .bnd (loopW (fun s => (order_Visual_L4 s.1 s.2.1 s.2.2.1 s.2.2.2.1 s.2.2.2.2.1 s.2.2.2.2.2).run) (levels0, [], 0, levels0, (levels0.length : Int), 0)) fun l_3 =>
  .bnd (loopW (fun s => (order_Visual_L11 s.1 s.2.1 s.2.2).run) (l_3.1, l_3.2.1, l_3.2.2)) fun l_5 =>
  .pure l_5
noncomputable def order_Visual_F (levels0 : List Int) : Option (List Int) := (order_Visual_T levels0).run
def order_Visual_L : List (Nat × LoopAnn) := [(4, { head := [.sv 0 false (.sl (.int .i64)), .srow 3 1000003 3 true (.int .i64), .sv 4 true (.int .i64), .sv 8 false (.sl (.int .i64)), .sv 9 true (.int .i64), .sv 10 true (.int .i64)], xid := 0, out := [.sv 0 false (.sl (.int .i64)), .srow 3 1000003 3 true (.int .i64), .sv 4 true (.int .i64)], hasRet := false, res := [] }), (11, { head := [.sv 0 false (.sl (.int .i64)), .srow 3 1000003 3 true (.int .i64), .sv 7 true (.int .i64)], xid := 2, out := [.srow 3 1000003 3 true (.int .i64)], hasRet := false, res := [] })]
noncomputable def order_Visual_C : List (Nat × Callee) := [(31, .lent order_reverse_fun)]
noncomputable def order_Visual_fun : Fun := ⟨[.sl (.int .i64)], [.row 3 (.int .i64)], fun x => order_Visual_F x.1⟩
theorem order_Visual_ev (x : Tys.I [.sl (.int .i64)]) : evFun G0 (fun f => olook f order_Visual_C) ⟨[], [], [31]⟩ (fun i => olook i order_Visual_L) Try.f17 [.sl (.int .i64)] [.row 3 (.int .i64)] x = order_Visual_T x.1 := by kernel_rfl
theorem order_Visual_ok : FunOk Try.prog 17 order_Visual_fun := evFun_ok mixed ctx0 (cons_calls (fb := .lent order_reverse_fun) order_reverse_ok (fun h => by rfl) (no_calls)) Try.func17 (by kernel_rfl) _ (fun x => congrArg Tr.run (order_Visual_ev x)) (by kernel_rfl) (by kernel_rfl)
/-! ### boustrophedon/boustrophedonlaw35.Line -/
noncomputable def law35_Line_L3 (ws1 : List Int) (levels6 : List Int) (t17 : Int) (t18 : Int) : Tr (Lap (List Int × List Int × Int × Int) (List Int × List Int)) :=
  .br (decide (t18 < t17)) (
    .bnd (idx levels6 t18) fun x_2 =>
    .bnd (idx levels6 t18) fun x_3 =>
    .pure (.next (ws1, levels6.set (Int.toNat t18) (if x_2 > 0 then x_2 else 0), t17, IntKind.i64.wrap (t18 + 1)))) (
    .pure (.done (ws1, levels6)))
noncomputable def law35_Line_L11 (w9 : List Int) (n10 : Int) (out11 : List Int) (t39 : List Int) (t40 : Int) (t41 : Int) : Tr (Lap (List Int × Int × List Int × List Int × Int × Int) (List Int × Int × List Int)) :=
  .br (decide (t41 < t40)) (
    .bnd (idx t39 t41) fun x_7 =>
    .br (decide (x_7 < n10)) (
      .bnd (app 17592186044416 out11 ([x_7])) fun r_8 =>
      .pure (.next (w9, n10, r_8, t39, t40, IntKind.i64.wrap (t41 + 1)))) (
      .pure (.next (w9, n10, out11, t39, t40, IntKind.i64.wrap (t41 + 1))))) (
    .pure (.done (w9, n10, out11)))
noncomputable def law35_Line_T (ls0 : List Int) (ws1 : List Int) : Tr (List Int × List Int) :=
  .bnd (law12_Levels_F ls0) fun c_1 =>
  .bnd (loopW (fun s => (law35_Line_L3 s.1 s.2.1 s.2.2.1 s.2.2.2).run) (ws1, c_1, (c_1.length : Int), 0)) fun l_4 =>
  .bnd (order_Visual_F l_4.2) fun c_5 =>
  .bnd (law22_Widths_F l_4.1) fun c_6 =>
  .bnd (loopW (fun s => (law35_Line_L11 s.1 s.2.1 s.2.2.1 s.2.2.2.1 s.2.2.2.2.1 s.2.2.2.2.2).run) (c_6, if (c_6.length : Int) < (c_5.length : Int) then (c_6.length : Int) else (c_5.length : Int), [], c_5, (c_5.length : Int), 0)) fun l_9 =>
  .bnd (cut l_9.1 0 l_9.2.1) fun r_10 =>
  .pure (l_9.2.2, r_10)
noncomputable def law35_Line_F (ls0 : List Int) (ws1 : List Int) : Option (List Int × List Int) := (law35_Line_T ls0 ws1).run
def law35_Line_L : List (Nat × LoopAnn) := [(3, { head := [.sv 1 false (.sl (.int .u8)), .srow 6 1000006 3 true (.int .i64), .sv 17 true (.int .i64), .sv 18 true (.int .i64)], xid := 0, out := [.sv 1 false (.sl (.int .u8)), .srow 6 1000006 3 true (.int .i64)], hasRet := false, res := [] }), (11, { head := [.srow 9 1000009 3 true (.int .i64), .sv 10 true (.int .i64), .srow 11 1000011 3 true (.int .i64), .srow 39 1000039 3 true (.int .i64), .sv 40 true (.int .i64), .sv 41 true (.int .i64)], xid := 2, out := [.srow 9 1000009 3 true (.int .i64), .sv 10 true (.int .i64), .srow 11 1000011 3 true (.int .i64)], hasRet := false, res := [] })]
noncomputable def law35_Line_C : List (Nat × Callee) := [(15, .plain law12_Levels_fun), (17, .plain order_Visual_fun), (22, .plain law22_Widths_fun)]
noncomputable def law35_Line_fun : Fun := ⟨[.sl (.int .u8), .sl (.int .u8)], [.row 3 (.int .i64), .row 3 (.int .i64)], fun x => law35_Line_F x.1 x.2.1⟩
theorem law35_Line_ev (x : Tys.I [.sl (.int .u8), .sl (.int .u8)]) : evFun G0 (fun f => olook f law35_Line_C) ⟨[56], [], []⟩ (fun i => olook i law35_Line_L) Try.f26 [.sl (.int .u8), .sl (.int .u8)] [.row 3 (.int .i64), .row 3 (.int .i64)] x = law35_Line_T x.1 x.2.1 := by kernel_rfl
theorem law35_Line_ok : FunOk Try.prog 26 law35_Line_fun := evFun_ok mixed ctx0 (cons_calls (fb := .plain law12_Levels_fun) law12_Levels_ok (fun h => by cases h) (cons_calls (fb := .plain order_Visual_fun) order_Visual_ok (fun h => by cases h) (cons_calls (fb := .plain law22_Widths_fun) law22_Widths_ok (fun h => by cases h) (no_calls)))) Try.func26 (by kernel_rfl) _ (fun x => congrArg Tr.run (law35_Line_ev x)) (by kernel_rfl) (by kernel_rfl)
/-! ### boustrophedon/boustrophedonlaw35.cover -/
noncomputable def law35_cover_L6 (v0 : List Int) (w1 : List Int) (from2 : Int) (to3 : Int) (out9 : List Bool) (k10 : Int) (i11 : Int) : Tr (Lap (List Int × List Int × Int × Int × List Bool × Int × Int) (List Int × List Int × Int × Int × List Bool × Int)) :=
  .bnd (idx w1 k10) fun x_1 =>
  .br (decide (i11 < x_1)) (
    .bnd (idx v0 k10) fun x_2 =>
    .br (decide (x_2 ≥ from2)) (
      .bnd (idx v0 k10) fun x_3 =>
      .bnd (app 140737488355328 out9 ([decide (x_3 < to3)])) fun r_4 =>
      .pure (.next (v0, w1, from2, to3, r_4, k10, IntKind.i64.wrap (i11 + 1)))) (
      .bnd (app 140737488355328 out9 ([false])) fun r_5 =>
      .pure (.next (v0, w1, from2, to3, r_5, k10, IntKind.i64.wrap (i11 + 1))))) (
    .pure (.done (v0, w1, from2, to3, out9, k10)))
noncomputable def law35_cover_L3 (v0 : List Int) (w1 : List Int) (from2 : Int) (to3 : Int) (out9 : List Bool) (k10 : Int) : Tr (Lap (List Int × List Int × Int × Int × List Bool × Int) (List Bool)) :=
  .br (decide (k10 < (v0.length : Int))) (
    .br (decide (k10 < (w1.length : Int))) (
      .bnd (loopW (fun s => (law35_cover_L6 s.1 s.2.1 s.2.2.1 s.2.2.2.1 s.2.2.2.2.1 s.2.2.2.2.2.1 s.2.2.2.2.2.2).run) (v0, w1, from2, to3, out9, k10, 0)) fun l_6 =>
      .pure (.next (l_6.1, l_6.2.1, l_6.2.2.1, l_6.2.2.2.1, l_6.2.2.2.2.1, IntKind.i64.wrap (l_6.2.2.2.2.2 + 1)))) (
      .pure (.done out9))) (
    .pure (.done out9))
noncomputable def law35_cover_T (v0 : List Int) (w1 : List Int) (from2 : Int) (to3 : Int) : Tr (List Bool) :=
  .bnd (loopW (fun s => (law35_cover_L3 s.1 s.2.1 s.2.2.1 s.2.2.2.1 s.2.2.2.2.1 s.2.2.2.2.2).run) (v0, w1, from2, to3, [], 0)) fun l_7 =>
  .pure l_7
noncomputable def law35_cover_F (v0 : List Int) (w1 : List Int) (from2 : Int) (to3 : Int) : Option (List Bool) := (law35_cover_T v0 w1 from2 to3).run
def law35_cover_L : List (Nat × LoopAnn) := [(6, { head := [.sv 0 false (.sl (.int .i64)), .sv 1 false (.sl (.int .i64)), .sv 2 false (.int .i64), .sv 3 false (.int .i64), .srow 9 1000009 4 true .bool, .sv 10 true (.int .i64), .sv 11 true (.int .i64)], xid := 2, out := [.sv 0 false (.sl (.int .i64)), .sv 1 false (.sl (.int .i64)), .sv 2 false (.int .i64), .sv 3 false (.int .i64), .srow 9 1000009 4 true .bool, .sv 10 true (.int .i64)], hasRet := false, res := [] }), (3, { head := [.sv 0 false (.sl (.int .i64)), .sv 1 false (.sl (.int .i64)), .sv 2 false (.int .i64), .sv 3 false (.int .i64), .srow 9 1000009 4 true .bool, .sv 10 true (.int .i64)], xid := 0, out := [.srow 9 1000009 4 true .bool], hasRet := false, res := [] })]
noncomputable def law35_cover_C : List (Nat × Callee) := []
noncomputable def law35_cover_fun : Fun := ⟨[.sl (.int .i64), .sl (.int .i64), .int .i64, .int .i64], [.row 4 .bool], fun x => law35_cover_F x.1 x.2.1 x.2.2.1 x.2.2.2.1⟩
theorem law35_cover_ev (x : Tys.I [.sl (.int .i64), .sl (.int .i64), .int .i64, .int .i64]) : evFun G0 (fun f => olook f law35_cover_C) ⟨[], [], []⟩ (fun i => olook i law35_cover_L) Try.f27 [.sl (.int .i64), .sl (.int .i64), .int .i64, .int .i64] [.row 4 .bool] x = law35_cover_T x.1 x.2.1 x.2.2.1 x.2.2.2.1 := by kernel_rfl
theorem law35_cover_ok : FunOk Try.prog 27 law35_cover_fun := evFun_ok mixed ctx0 (no_calls) Try.func27 (by kernel_rfl) _ (fun x => congrArg Tr.run (law35_cover_ev x)) (by kernel_rfl) (by kernel_rfl)
/-! ### boustrophedon/selects.Cells -/
noncomputable def selects_Cells_L3 (sum3 : Int) (t6 : List (Int × Int)) (t7 : Int) (t8 : Int) : Tr (Lap (Int × (List (Int × Int)) × Int × Int) Int) :=
  .br (decide (t8 < t7)) (
    .bnd (idx t6 t8) fun x_1 =>
    .bnd (idx ([x_1]) 0) fun x_2 =>
    .bnd (idx ([x_1]) 0) fun x_3 =>
    .pure (.next (IntKind.i64.wrap (sum3 + (IntKind.i64.wrap (x_2.2 - x_3.1))), t6, t7, IntKind.i64.wrap (t8 + 1)))) (
    .pure (.done sum3))
noncomputable def selects_Cells_T (bands0 : List (Int × Int)) : Tr Int :=
  .bnd (loopW (fun s => (selects_Cells_L3 s.1 s.2.1 s.2.2.1 s.2.2.2).run) (0, bands0, (bands0.length : Int), 0)) fun l_4 =>
  .pure l_4
noncomputable def selects_Cells_F (bands0 : List (Int × Int)) : Option Int := (selects_Cells_T bands0).run
def selects_Cells_L : List (Nat × LoopAnn) := [(3, { head := [.sv 3 true (.int .i64), .sv 6 false (.sl (.st (.pair (.int .i64) (.int .i64)))), .sv 7 true (.int .i64), .sv 8 true (.int .i64)], xid := 0, out := [.sv 3 true (.int .i64)], hasRet := false, res := [] })]
noncomputable def selects_Cells_C : List (Nat × Callee) := []
noncomputable def selects_Cells_fun : Fun := ⟨[.sl (.st (.pair (.int .i64) (.int .i64)))], [.v (.int .i64)], fun x => selects_Cells_F x.1⟩
theorem selects_Cells_ev (x : Tys.I [.sl (.st (.pair (.int .i64) (.int .i64)))]) : evFun G0 (fun f => olook f selects_Cells_C) ⟨[], [], []⟩ (fun i => olook i selects_Cells_L) Try.f29 [.sl (.st (.pair (.int .i64) (.int .i64)))] [.v (.int .i64)] x = selects_Cells_T x.1 := by kernel_rfl
theorem selects_Cells_ok : FunOk Try.prog 29 selects_Cells_fun := evFun_ok mixed ctx0 (no_calls) Try.func29 (by kernel_rfl) _ (fun x => congrArg Tr.run (selects_Cells_ev x)) (by kernel_rfl) (by kernel_rfl)
/-! ### boustrophedon/boustrophedonlaw35.SelectsBands -/
noncomputable def law35_SelectsBands_L13 (want11 : List Bool) (n13 : Int) (bs14 : List (Int × Int)) (b16 : Int × Int) (k17 : Int) (t38 : Int) (t39 : Int) : Tr (Lap (List Bool × Int × (List (Int × Int)) × (Int × Int) × Int × Int × Int) (Sum (List Bool × Int × (List (Int × Int)) × (Int × Int) × Int × Int) Bool)) :=
  .bnd (idx ([b16]) 0) fun x_10 =>
  .br (decide (k17 < x_10.2)) (
    .bnd (idx want11 k17) fun x_11 =>
    .bnd (idx ([b16]) 0) fun x_12 =>
    .br (!(x_11 == (decide (k17 ≥ x_12.1)))) (
      .pure (.done (.inr false))) (
      .pure (.next (want11, n13, bs14, b16, IntKind.i64.wrap (k17 + 1), t38, t39)))) (
    .pure (.done (.inl (want11, n13, bs14, b16, t38, t39))))
noncomputable def law35_SelectsBands_L8 (want11 : List Bool) (last12 : Int) (n13 : Int) (bs14 : List (Int × Int)) (t38 : Int) (t39 : Int) : Tr (Lap (List Bool × Int × Int × (List (Int × Int)) × Int × Int) (Sum (List Bool × Int × Int × List (Int × Int)) Bool)) :=
  .br (decide (t39 < t38)) (
    .bnd (idx bs14 t39) fun x_5 =>
    .bnd (idx ([x_5]) 0) fun x_6 =>
    .br (decide (x_6.1 ≤ last12)) (
      .pure (.done (.inr false))) (
      .bnd (idx ([x_5]) 0) fun x_7 =>
      .bnd (idx ([x_5]) 0) fun x_8 =>
      .br (decide (x_7.2 ≤ x_8.1)) (
        .pure (.done (.inr false))) (
        .bnd (idx ([x_5]) 0) fun x_9 =>
        .br (decide (x_9.2 > (want11.length : Int))) (
          .pure (.done (.inr false))) (
          .alt (loopW (fun s => (law35_SelectsBands_L13 s.1 s.2.1 s.2.2.1 s.2.2.2.1 s.2.2.2.2.1 s.2.2.2.2.2.1 s.2.2.2.2.2.2).run) (want11, n13, bs14, x_5, if last12 > 0 then last12 else 0, t38, t39)) (fun l_13 =>
            .bnd (idx ([l_13.2.2.2.1]) 0) fun x_14 =>
            .bnd (idx ([l_13.2.2.2.1]) 0) fun x_15 =>
            .bnd (idx ([l_13.2.2.2.1]) 0) fun x_16 =>
            .pure (.next (l_13.1, x_14.2, IntKind.i64.wrap (l_13.2.1 + (IntKind.i64.wrap (x_15.2 - x_16.1))), l_13.2.2.1, l_13.2.2.2.2.1, IntKind.i64.wrap (l_13.2.2.2.2.2 + 1)))) (fun l_17 =>
            .pure (.done (.inr l_17))))))) (
    .pure (.done (.inl (want11, last12, n13, bs14))))
noncomputable def law35_SelectsBands_L21 (want11 : List Bool) (n13 : Int) (bs14 : List (Int × Int)) (k18 : Int) : Tr (Lap (List Bool × Int × (List (Int × Int)) × Int) (Sum (Int × List (Int × Int)) Bool)) :=
  .br (decide (k18 < (want11.length : Int))) (
    .bnd (idx want11 k18) fun x_19 =>
    .br x_19 (
      .pure (.done (.inr false))) (
      .pure (.next (want11, n13, bs14, IntKind.i64.wrap (k18 + 1))))) (
    .pure (.done (.inl (n13, bs14))))
noncomputable def law35_SelectsBands_T (ls0 : List Int) (ws1 : List Int) (from2 : Int) (to3 : Int) : Tr Bool :=
  .bnd law35_awake_F fun c_1 =>
  .br (!c_1) (
    .pure false) (
    .bnd (law35_Line_F ls0 ws1) fun c_2 =>
    .bnd (law35_cover_F c_2.1 c_2.2 from2 to3) fun c_3 =>
    .bnd (selects_Bands_F c_2.1 c_2.2 from2 to3) fun c_4 =>
    .alt (loopW (fun s => (law35_SelectsBands_L8 s.1 s.2.1 s.2.2.1 s.2.2.2.1 s.2.2.2.2.1 s.2.2.2.2.2).run) (c_3, (-1), 0, c_4, (c_4.length : Int), 0)) (fun l_18 =>
      .alt (loopW (fun s => (law35_SelectsBands_L21 s.1 s.2.1 s.2.2.1 s.2.2.2).run) (l_18.1, l_18.2.2.1, l_18.2.2.2, if l_18.2.1 > 0 then l_18.2.1 else 0)) (fun l_20 =>
        .bnd (selects_Cells_F l_20.2) fun c_21 =>
        .pure (c_21 == l_20.1)) (fun l_22 =>
        .pure l_22)) (fun l_23 =>
      .pure l_23))
noncomputable def law35_SelectsBands_F (ls0 : List Int) (ws1 : List Int) (from2 : Int) (to3 : Int) : Option Bool := (law35_SelectsBands_T ls0 ws1 from2 to3).run
def law35_SelectsBands_L : List (Nat × LoopAnn) := [(13, { head := [.srow 11 1000011 4 true .bool, .sv 13 true (.int .i64), .srow 14 1000014 51 true (.st (.pair (.int .i64) (.int .i64))), .sbox 16 1000016 51 true (.st (.pair (.int .i64) (.int .i64))), .sv 17 true (.int .i64), .sref 37 14 1000014, .sv 38 true (.int .i64), .sv 39 true (.int .i64)], xid := 2, out := [.srow 11 1000011 4 true .bool, .sv 13 true (.int .i64), .srow 14 1000014 51 true (.st (.pair (.int .i64) (.int .i64))), .sbox 16 1000016 51 true (.st (.pair (.int .i64) (.int .i64))), .sref 37 14 1000014, .sv 38 true (.int .i64), .sv 39 true (.int .i64)], hasRet := true, res := [.sv 8 true .bool] }), (8, { head := [.srow 11 1000011 4 true .bool, .sv 12 true (.int .i64), .sv 13 true (.int .i64), .srow 14 1000014 51 true (.st (.pair (.int .i64) (.int .i64))), .sref 37 14 1000014, .sv 38 true (.int .i64), .sv 39 true (.int .i64)], xid := 0, out := [.srow 11 1000011 4 true .bool, .sv 12 true (.int .i64), .sv 13 true (.int .i64), .srow 14 1000014 51 true (.st (.pair (.int .i64) (.int .i64)))], hasRet := true, res := [.sv 8 true .bool] }), (21, { head := [.srow 11 1000011 4 true .bool, .sv 13 true (.int .i64), .srow 14 1000014 51 true (.st (.pair (.int .i64) (.int .i64))), .sv 18 true (.int .i64)], xid := 4, out := [.sv 13 true (.int .i64), .srow 14 1000014 51 true (.st (.pair (.int .i64) (.int .i64)))], hasRet := true, res := [.sv 8 true .bool] })]
noncomputable def law35_SelectsBands_C : List (Nat × Callee) := [(25, .plain law35_awake_fun), (26, .plain law35_Line_fun), (27, .plain law35_cover_fun), (28, .plain selects_Bands_fun), (29, .plain selects_Cells_fun)]
noncomputable def law35_SelectsBands_fun : Fun := ⟨[.sl (.int .u8), .sl (.int .u8), .int .i64, .int .i64], [.v .bool], fun x => law35_SelectsBands_F x.1 x.2.1 x.2.2.1 x.2.2.2.1⟩
theorem law35_SelectsBands_ev (x : Tys.I [.sl (.int .u8), .sl (.int .u8), .int .i64, .int .i64]) : evFun G0 (fun f => olook f law35_SelectsBands_C) ⟨[], [], []⟩ (fun i => olook i law35_SelectsBands_L) Try.f11 [.sl (.int .u8), .sl (.int .u8), .int .i64, .int .i64] [.v .bool] x = law35_SelectsBands_T x.1 x.2.1 x.2.2.1 x.2.2.2.1 := by kernel_rfl
theorem law35_SelectsBands_ok : FunOk Try.prog 11 law35_SelectsBands_fun := evFun_ok mixed ctx0 (cons_calls (fb := .plain law35_awake_fun) law35_awake_ok (fun h => by cases h) (cons_calls (fb := .plain law35_Line_fun) law35_Line_ok (fun h => by cases h) (cons_calls (fb := .plain law35_cover_fun) law35_cover_ok (fun h => by cases h) (cons_calls (fb := .plain selects_Bands_fun) selects_Bands_ok (fun h => by cases h) (cons_calls (fb := .plain selects_Cells_fun) selects_Cells_ok (fun h => by cases h) (no_calls)))))) Try.func11 (by kernel_rfl) _ (fun x => congrArg Tr.run (law35_SelectsBands_ev x)) (by kernel_rfl) (by kernel_rfl)
/-! ### boustrophedon/boustrophedonlaw35.SelectsBack -/
noncomputable def law35_SelectsBack_L10 (from2 : Int) (to3 : Int) (v9 : List Int) (w10 : List Int) (seen12 : List Bool) (t37 : List (Int × Int)) (t38 : Int) (t39 : Int) (t49 : List Int) (t50 : Int) (t51 : Int) : Tr (Lap (Int × Int × List Int × List Int × List Bool × (List (Int × Int)) × Int × Int × List Int × Int × Int) (Sum (Int × Int × List Int × List Int × List Bool × (List (Int × Int)) × Int × Int) Bool)) :=
  .br (decide (t51 < t50)) (
    .bnd (idx t49 t51) fun x_9 =>
    .br (decide (x_9 < 0)) (
      .pure (.done (.inr false))) (
      .br (decide (x_9 ≥ (seen12.length : Int))) (
        .pure (.done (.inr false))) (
        .bnd (idx seen12 x_9) fun x_10 =>
        .br x_10 (
          .pure (.done (.inr false))) (
          .br (decide (x_9 < from2)) (
            .pure (.done (.inr false))) (
            .br (decide (x_9 ≥ to3)) (
              .pure (.done (.inr false))) (
              .bnd (idx seen12 x_9) fun x_11 =>
              .pure (.next (from2, to3, v9, w10, seen12.set (Int.toNat x_9) true, t37, t38, t39, t49, t50, IntKind.i64.wrap (t51 + 1))))))))) (
    .pure (.done (.inl (from2, to3, v9, w10, seen12, t37, t38, t39))))
noncomputable def law35_SelectsBack_L7 (from2 : Int) (to3 : Int) (v9 : List Int) (w10 : List Int) (seen12 : List Bool) (t37 : List (Int × Int)) (t38 : Int) (t39 : Int) : Tr (Lap (Int × Int × List Int × List Int × List Bool × (List (Int × Int)) × Int × Int) (Sum (Int × Int × List Int × List Int × List Bool) Bool)) :=
  .br (decide (t39 < t38)) (
    .bnd (idx t37 t39) fun x_5 =>
    .bnd (idx ([x_5]) 0) fun x_6 =>
    .bnd (idx ([x_5]) 0) fun x_7 =>
    .bnd (selects_Places_F v9 w10 x_6.1 x_7.2) fun c_8 =>
    .alt (loopW (fun s => (law35_SelectsBack_L10 s.1 s.2.1 s.2.2.1 s.2.2.2.1 s.2.2.2.2.1 s.2.2.2.2.2.1 s.2.2.2.2.2.2.1 s.2.2.2.2.2.2.2.1 s.2.2.2.2.2.2.2.2.1 s.2.2.2.2.2.2.2.2.2.1 s.2.2.2.2.2.2.2.2.2.2).run) (from2, to3, v9, w10, seen12, t37, t38, t39, c_8, (c_8.length : Int), 0)) (fun l_12 =>
      .pure (.next (l_12.1, l_12.2.1, l_12.2.2.1, l_12.2.2.2.1, l_12.2.2.2.2.1, l_12.2.2.2.2.2.1, l_12.2.2.2.2.2.2.1, IntKind.i64.wrap (l_12.2.2.2.2.2.2.2 + 1)))) (fun l_13 =>
      .pure (.done (.inr l_13)))) (
    .pure (.done (.inl (from2, to3, v9, w10, seen12))))
noncomputable def law35_SelectsBack_L18 (from2 : Int) (to3 : Int) (w10 : List Int) (want11 : List Int) (seen12 : List Bool) (t84 : List Int) (t85 : Int) (t86 : Int) : Tr (Lap (Int × Int × List Int × List Int × List Bool × List Int × Int × Int) (Sum (List Int × List Bool) Bool)) :=
  .br (decide (t86 < t85)) (
    .bnd (idx t84 t86) fun x_15 =>
    .bnd (idx w10 t86) fun x_16 =>
    .br (decide (x_16 > 0)) (
      .br (decide (x_15 ≥ from2)) (
        .br (decide (x_15 < to3)) (
          .bnd (app 17592186044416 want11 ([x_15])) fun r_17 =>
          .bnd (idx seen12 x_15) fun x_18 =>
          .br (!x_18) (
            .pure (.done (.inr false))) (
            .pure (.next (from2, to3, w10, r_17, seen12, t84, t85, IntKind.i64.wrap (t86 + 1))))) (
          .pure (.next (from2, to3, w10, want11, seen12, t84, t85, IntKind.i64.wrap (t86 + 1))))) (
        .pure (.next (from2, to3, w10, want11, seen12, t84, t85, IntKind.i64.wrap (t86 + 1))))) (
      .pure (.next (from2, to3, w10, want11, seen12, t84, t85, IntKind.i64.wrap (t86 + 1))))) (
    .pure (.done (.inl (want11, seen12))))
noncomputable def law35_SelectsBack_L27 (want11 : List Int) (n19 : Int) (t116 : List Bool) (t117 : Int) (t118 : Int) : Tr (Lap (List Int × Int × List Bool × Int × Int) (List Int × Int)) :=
  .br (decide (t118 < t117)) (
    .bnd (idx t116 t118) fun x_20 =>
    .br x_20 (
      .pure (.next (want11, IntKind.i64.wrap (n19 + 1), t116, t117, IntKind.i64.wrap (t118 + 1)))) (
      .pure (.next (want11, n19, t116, t117, IntKind.i64.wrap (t118 + 1))))) (
    .pure (.done (want11, n19)))
noncomputable def law35_SelectsBack_T (ls0 : List Int) (ws1 : List Int) (from2 : Int) (to3 : Int) : Tr Bool :=
  .bnd law35_awake_F fun c_1 =>
  .br (!c_1) (
    .pure false) (
    .bnd (law35_Line_F ls0 ws1) fun c_2 =>
    .bnd (mk 140737488355328 false (c_2.1.length : Int)) fun r_3 =>
    .bnd (selects_Bands_F c_2.1 c_2.2 from2 to3) fun c_4 =>
    .alt (loopW (fun s => (law35_SelectsBack_L7 s.1 s.2.1 s.2.2.1 s.2.2.2.1 s.2.2.2.2.1 s.2.2.2.2.2.1 s.2.2.2.2.2.2.1 s.2.2.2.2.2.2.2).run) (from2, to3, c_2.1, c_2.2, r_3, c_4, (c_4.length : Int), 0)) (fun l_14 =>
      .alt (loopW (fun s => (law35_SelectsBack_L18 s.1 s.2.1 s.2.2.1 s.2.2.2.1 s.2.2.2.2.1 s.2.2.2.2.2.1 s.2.2.2.2.2.2.1 s.2.2.2.2.2.2.2).run) (l_14.1, l_14.2.1, l_14.2.2.2.1, [], l_14.2.2.2.2, l_14.2.2.1, (l_14.2.2.1.length : Int), 0)) (fun l_19 =>
        .bnd (loopW (fun s => (law35_SelectsBack_L27 s.1 s.2.1 s.2.2.1 s.2.2.2.1 s.2.2.2.2).run) (l_19.1, 0, l_19.2, (l_19.2.length : Int), 0)) fun l_21 =>
        .pure (l_21.2 == (l_21.1.length : Int))) (fun l_22 =>
        .pure l_22)) (fun l_23 =>
      .pure l_23))
noncomputable def law35_SelectsBack_F (ls0 : List Int) (ws1 : List Int) (from2 : Int) (to3 : Int) : Option Bool := (law35_SelectsBack_T ls0 ws1 from2 to3).run
def law35_SelectsBack_L : List (Nat × LoopAnn) := [(10, { head := [.sv 2 false (.int .i64), .sv 3 false (.int .i64), .srow 9 1000009 3 true (.int .i64), .srow 10 1000010 3 true (.int .i64), .snil 11, .srow 12 1000012 4 true .bool, .srow 37 1000037 51 true (.st (.pair (.int .i64) (.int .i64))), .sv 38 true (.int .i64), .sv 39 true (.int .i64), .srow 49 1000049 3 true (.int .i64), .sv 50 true (.int .i64), .sv 51 true (.int .i64)], xid := 2, out := [.sv 2 false (.int .i64), .sv 3 false (.int .i64), .srow 9 1000009 3 true (.int .i64), .srow 10 1000010 3 true (.int .i64), .snil 11, .srow 12 1000012 4 true .bool, .srow 37 1000037 51 true (.st (.pair (.int .i64) (.int .i64))), .sv 38 true (.int .i64), .sv 39 true (.int .i64)], hasRet := true, res := [.sv 8 true .bool] }), (7, { head := [.sv 2 false (.int .i64), .sv 3 false (.int .i64), .srow 9 1000009 3 true (.int .i64), .srow 10 1000010 3 true (.int .i64), .snil 11, .srow 12 1000012 4 true .bool, .srow 37 1000037 51 true (.st (.pair (.int .i64) (.int .i64))), .sv 38 true (.int .i64), .sv 39 true (.int .i64)], xid := 0, out := [.sv 2 false (.int .i64), .sv 3 false (.int .i64), .srow 9 1000009 3 true (.int .i64), .srow 10 1000010 3 true (.int .i64), .snil 11, .srow 12 1000012 4 true .bool], hasRet := true, res := [.sv 8 true .bool] }), (18, { head := [.sv 2 false (.int .i64), .sv 3 false (.int .i64), .srow 10 1000010 3 true (.int .i64), .srow 11 1000011 3 true (.int .i64), .srow 12 1000012 4 true .bool, .srow 84 1000084 3 true (.int .i64), .sv 85 true (.int .i64), .sv 86 true (.int .i64)], xid := 4, out := [.srow 11 1000011 3 true (.int .i64), .srow 12 1000012 4 true .bool], hasRet := true, res := [.sv 8 true .bool] }), (27, { head := [.srow 11 1000011 3 true (.int .i64), .sv 19 true (.int .i64), .srow 116 1000116 4 true .bool, .sv 117 true (.int .i64), .sv 118 true (.int .i64)], xid := 6, out := [.srow 11 1000011 3 true (.int .i64), .sv 19 true (.int .i64)], hasRet := false, res := [] })]
noncomputable def law35_SelectsBack_C : List (Nat × Callee) := [(25, .plain law35_awake_fun), (26, .plain law35_Line_fun), (28, .plain selects_Bands_fun), (30, .plain selects_Places_fun)]
noncomputable def law35_SelectsBack_fun : Fun := ⟨[.sl (.int .u8), .sl (.int .u8), .int .i64, .int .i64], [.v .bool], fun x => law35_SelectsBack_F x.1 x.2.1 x.2.2.1 x.2.2.2.1⟩
theorem law35_SelectsBack_ev (x : Tys.I [.sl (.int .u8), .sl (.int .u8), .int .i64, .int .i64]) : evFun G0 (fun f => olook f law35_SelectsBack_C) ⟨[], [], []⟩ (fun i => olook i law35_SelectsBack_L) Try.f12 [.sl (.int .u8), .sl (.int .u8), .int .i64, .int .i64] [.v .bool] x = law35_SelectsBack_T x.1 x.2.1 x.2.2.1 x.2.2.2.1 := by kernel_rfl
theorem law35_SelectsBack_ok : FunOk Try.prog 12 law35_SelectsBack_fun := evFun_ok mixed ctx0 (cons_calls (fb := .plain law35_awake_fun) law35_awake_ok (fun h => by cases h) (cons_calls (fb := .plain law35_Line_fun) law35_Line_ok (fun h => by cases h) (cons_calls (fb := .plain selects_Bands_fun) selects_Bands_ok (fun h => by cases h) (cons_calls (fb := .plain selects_Places_fun) selects_Places_ok (fun h => by cases h) (no_calls))))) Try.func12 (by kernel_rfl) _ (fun x => congrArg Tr.run (law35_SelectsBack_ev x)) (by kernel_rfl) (by kernel_rfl)
/-! ### boustrophedon/boustrophedonlaw35.SelectsWhole -/
noncomputable def law35_SelectsWhole_T (ls0 : List Int) (ws1 : List Int) (at2 : Int) : Tr Bool :=
  .bnd law35_awake_F fun c_1 =>
  .br (!c_1) (
    .pure false) (
    .bnd (law35_Line_F ls0 ws1) fun c_2 =>
    .bnd (law35_cover_F c_2.1 c_2.2 0 0) fun c_3 =>
    .bnd (selects_Bands_F c_2.1 c_2.2 0 (c_2.1.length : Int)) fun c_4 =>
    .bnd (selects_Bands_F c_2.1 c_2.2 at2 at2) fun c_5 =>
    .br ((c_5.length : Int) == 0) (
      .bnd (selects_Cells_F c_4) fun c_6 =>
      .br (c_6 == (c_3.length : Int)) (
        .br ((c_3.length : Int) == 0) (
          .br ((c_4.length : Int) == 0) (
            .pure true) (
            .br (decide ((c_3.length : Int) > 0)) (
              .br ((c_4.length : Int) == 1) (
                .bnd (idx c_4 0) fun x_7 =>
                .pure ((x_7.1 == 0) && (x_7.2 == (c_3.length : Int)))) (
                .pure false)) (
              .pure false))) (
          .br (decide ((c_3.length : Int) > 0)) (
            .br ((c_4.length : Int) == 1) (
              .bnd (idx c_4 0) fun x_8 =>
              .pure ((x_8.1 == 0) && (x_8.2 == (c_3.length : Int)))) (
              .pure false)) (
            .pure false))) (
        .pure false)) (
      .pure false))
noncomputable def law35_SelectsWhole_F (ls0 : List Int) (ws1 : List Int) (at2 : Int) : Option Bool := (law35_SelectsWhole_T ls0 ws1 at2).run
def law35_SelectsWhole_L : List (Nat × LoopAnn) := []
noncomputable def law35_SelectsWhole_C : List (Nat × Callee) := [(25, .plain law35_awake_fun), (26, .plain law35_Line_fun), (27, .plain law35_cover_fun), (28, .plain selects_Bands_fun), (29, .plain selects_Cells_fun)]
noncomputable def law35_SelectsWhole_fun : Fun := ⟨[.sl (.int .u8), .sl (.int .u8), .int .i64], [.v .bool], fun x => law35_SelectsWhole_F x.1 x.2.1 x.2.2.1⟩
theorem law35_SelectsWhole_ev (x : Tys.I [.sl (.int .u8), .sl (.int .u8), .int .i64]) : evFun G0 (fun f => olook f law35_SelectsWhole_C) ⟨[], [], []⟩ (fun i => olook i law35_SelectsWhole_L) Try.f13 [.sl (.int .u8), .sl (.int .u8), .int .i64] [.v .bool] x = law35_SelectsWhole_T x.1 x.2.1 x.2.2.1 := by kernel_rfl
theorem law35_SelectsWhole_ok : FunOk Try.prog 13 law35_SelectsWhole_fun := evFun_ok mixed ctx0 (cons_calls (fb := .plain law35_awake_fun) law35_awake_ok (fun h => by cases h) (cons_calls (fb := .plain law35_Line_fun) law35_Line_ok (fun h => by cases h) (cons_calls (fb := .plain law35_cover_fun) law35_cover_ok (fun h => by cases h) (cons_calls (fb := .plain selects_Bands_fun) selects_Bands_ok (fun h => by cases h) (cons_calls (fb := .plain selects_Cells_fun) selects_Cells_ok (fun h => by cases h) (no_calls)))))) Try.func13 (by kernel_rfl) _ (fun x => congrArg Tr.run (law35_SelectsWhole_ev x)) (by kernel_rfl) (by kernel_rfl)
end Go.Proofs.Ytiijkbdffbjehaa
