/-
  The plain readings of the functions of this seat, by program; each is tied to the loaded function.
-/
import Derived.Test.YtfljkcfahhkfbabEvMain
import Derived.Test.YtfljkcfahhkfbabChecked
namespace Go.Proofs.Ytfljkcfahhkfbab
set_option maxRecDepth 100000
set_option linter.unusedVariables false

def G0 : Ctx := { ty := [(3, .int .i64), (4, .bool), (5, .int .u8), (22, .int .u16), (28, .int .i64), (30, .sl (.int .u8)), (31, .sl .bool), (32, .sl (.int .i64)), (41, .sl (.st (.pair (.int .i64) (.int .i64)))), (44, .st (.pair (.int .i64) (.int .i64))), (50, .sl (.int .u8)), (61, .int .u8)], sls := [(30, ⟨5, .int .u8, 140737488355328⟩), (31, ⟨4, .bool, 140737488355328⟩), (32, ⟨3, .int .i64, 17592186044416⟩), (41, ⟨44, .st (.pair (.int .i64) (.int .i64)), 8796093022208⟩), (50, ⟨61, .int .u8, 140737488355328⟩)], eqs := [(44, .pair (.int .i64) (.int .i64))] }
theorem mixed : Try.prog.follows .mixedOrders = true := by kernel_rfl
theorem ctx0 : CtxOk Try.prog G0 := ctx_ok (by kernel_rfl)
theorem no_calls : ∀ f fa, olook f ([] : List (Nat × Fun)) = some fa → FunOk Try.prog f fa := fun _ _ h => by cases h
theorem cons_calls {k : Nat} {fb : Fun} {l : List (Nat × Fun)} (h : FunOk Try.prog k fb) (hl : ∀ f fa, olook f l = some fa → FunOk Try.prog f fa) : ∀ f fa, olook f ((k, fb) :: l) = some fa → FunOk Try.prog f fa := by
  intro f fa hf
  rw [olook_cons] at hf
  split at hf
  · rename_i e; subst e; cases hf; exact h
  · exact hl f fa hf

/-! ### boustrophedon/align.may -/
noncomputable def align_may_T (grows0 : List Bool) (i1 : Int) : Tr Bool :=
  .br (decide (i1 < (grows0.length : Int))) (
    .bnd (idx grows0 i1) fun x_1 =>
    .pure x_1) (
    .pure false)
noncomputable def align_may_F (grows0 : List Bool) (i1 : Int) : Option Bool := (align_may_T grows0 i1).run
def align_may_L : List (Nat × LoopAnn) := []
noncomputable def align_may_C : List (Nat × Fun) := []
noncomputable def align_may_fun : Fun := ⟨[.sl .bool, .int .i64], [.v .bool], fun x => align_may_F x.1 x.2.1⟩
theorem align_may_ev (x : Tys.I [.sl .bool, .int .i64]) : evFun G0 (fun f => olook f align_may_C) ⟨[]⟩ (fun i => olook i align_may_L) Try.f31 [.sl .bool, .int .i64] [.v .bool] x = align_may_T x.1 x.2.1 := by kernel_rfl
theorem align_may_ok : FunOk Try.prog 31 align_may_fun := evFun_ok mixed ctx0 (no_calls) Try.func31 (by kernel_rfl) _ (fun x => congrArg Tr.run (align_may_ev x)) (by kernel_rfl) (by kernel_rfl)
/-! ### boustrophedon/boustrophedonlaw25.Same -/
noncomputable def law25_Same_L4 (a0 : List Int) (b1 : List Int) (k5 : Int) : Tr (Lap (List Int × List Int × Int) (Sum Unit Bool)) :=
  .br (decide (k5 < (a0.length : Int))) (
    .bnd (idx a0 k5) fun x_1 =>
    .bnd (idx b1 k5) fun x_2 =>
    .br (x_1 != x_2) (
      .pure (.done (.inr false))) (
      .pure (.next (a0, b1, IntKind.i64.wrap (k5 + 1))))) (
    .pure (.done (.inl ())))
noncomputable def law25_Same_T (a0 : List Int) (b1 : List Int) : Tr Bool :=
  .br ((a0.length : Int) != (b1.length : Int)) (
    .pure false) (
    .alt (loopW (fun s => (law25_Same_L4 s.1 s.2.1 s.2.2).run) (a0, b1, 0)) (fun l_3 =>
      .pure true) (fun l_4 =>
      .pure l_4))
noncomputable def law25_Same_F (a0 : List Int) (b1 : List Int) : Option Bool := (law25_Same_T a0 b1).run
def law25_Same_L : List (Nat × LoopAnn) := [(4, { head := [.sv 0 false (.sl (.int .i64)), .sv 1 false (.sl (.int .i64)), .sv 5 true (.int .i64)], xid := 0, out := [], hasRet := true, res := [.sv 4 true .bool] })]
noncomputable def law25_Same_C : List (Nat × Fun) := []
noncomputable def law25_Same_fun : Fun := ⟨[.sl (.int .i64), .sl (.int .i64)], [.v .bool], fun x => law25_Same_F x.1 x.2.1⟩
theorem law25_Same_ev (x : Tys.I [.sl (.int .i64), .sl (.int .i64)]) : evFun G0 (fun f => olook f law25_Same_C) ⟨[]⟩ (fun i => olook i law25_Same_L) Try.f16 [.sl (.int .i64), .sl (.int .i64)] [.v .bool] x = law25_Same_T x.1 x.2.1 := by kernel_rfl
theorem law25_Same_ok : FunOk Try.prog 16 law25_Same_fun := evFun_ok mixed ctx0 (no_calls) Try.func16 (by kernel_rfl) _ (fun x => congrArg Tr.run (law25_Same_ev x)) (by kernel_rfl) (by kernel_rfl)
/-! ### boustrophedon/boustrophedonlaw22.Widths -/
noncomputable def law22_Widths_L3 (ns0 : List Int) (out3 : List Int) (k4 : Int) : Tr (Lap (List Int × List Int × Int) (List Int)) :=
  .br (decide (k4 < (ns0.length : Int))) (
    .bnd (idx ns0 k4) fun x_1 =>
    .bnd (app 17592186044416 out3 ([IntKind.i64.wrap (x_1.tmod 3)])) fun r_2 =>
    .pure (.next (ns0, r_2, IntKind.i64.wrap (k4 + 1)))) (
    .pure (.done out3))
noncomputable def law22_Widths_T (ns0 : List Int) : Tr (List Int) :=
  .bnd (loopW (fun s => (law22_Widths_L3 s.1 s.2.1 s.2.2).run) (ns0, [], 0)) fun l_3 =>
  .pure l_3
noncomputable def law22_Widths_F (ns0 : List Int) : Option (List Int) := (law22_Widths_T ns0).run
def law22_Widths_L : List (Nat × LoopAnn) := [(3, { head := [.sv 0 false (.sl (.int .u8)), .srow 3 1000003 3 true (.int .i64), .sv 4 true (.int .i64)], xid := 0, out := [.srow 3 1000003 3 true (.int .i64)], hasRet := false, res := [] })]
noncomputable def law22_Widths_C : List (Nat × Fun) := []
noncomputable def law22_Widths_fun : Fun := ⟨[.sl (.int .u8)], [.row 3 (.int .i64)], fun x => law22_Widths_F x.1⟩
theorem law22_Widths_ev (x : Tys.I [.sl (.int .u8)]) : evFun G0 (fun f => olook f law22_Widths_C) ⟨[]⟩ (fun i => olook i law22_Widths_L) Try.f13 [.sl (.int .u8)] [.row 3 (.int .i64)] x = law22_Widths_T x.1 := by kernel_rfl
theorem law22_Widths_ok : FunOk Try.prog 13 law22_Widths_fun := evFun_ok mixed ctx0 (no_calls) Try.func13 (by kernel_rfl) _ (fun x => congrArg Tr.run (law22_Widths_ev x)) (by kernel_rfl) (by kernel_rfl)
/-! ### boustrophedon/cellw.Sum -/
noncomputable def cellw_Sum_L3 (sum3 : Int) (t6 : List Int) (t7 : Int) (t8 : Int) : Tr (Lap (Int × List Int × Int × Int) Int) :=
  .br (decide (t8 < t7)) (
    .bnd (idx t6 t8) fun x_1 =>
    .pure (.next (IntKind.i64.wrap (sum3 + x_1), t6, t7, IntKind.i64.wrap (t8 + 1)))) (
    .pure (.done sum3))
noncomputable def cellw_Sum_T (ws0 : List Int) : Tr Int :=
  .bnd (loopW (fun s => (cellw_Sum_L3 s.1 s.2.1 s.2.2.1 s.2.2.2).run) (0, ws0, (ws0.length : Int), 0)) fun l_2 =>
  .pure l_2
noncomputable def cellw_Sum_F (ws0 : List Int) : Option Int := (cellw_Sum_T ws0).run
def cellw_Sum_L : List (Nat × LoopAnn) := [(3, { head := [.sv 3 true (.int .i64), .sv 6 false (.sl (.int .i64)), .sv 7 true (.int .i64), .sv 8 true (.int .i64)], xid := 0, out := [.sv 3 true (.int .i64)], hasRet := false, res := [] })]
noncomputable def cellw_Sum_C : List (Nat × Fun) := []
noncomputable def cellw_Sum_fun : Fun := ⟨[.sl (.int .i64)], [.v (.int .i64)], fun x => cellw_Sum_F x.1⟩
theorem cellw_Sum_ev (x : Tys.I [.sl (.int .i64)]) : evFun G0 (fun f => olook f cellw_Sum_C) ⟨[]⟩ (fun i => olook i cellw_Sum_L) Try.f15 [.sl (.int .i64)] [.v (.int .i64)] x = cellw_Sum_T x.1 := by kernel_rfl
theorem cellw_Sum_ok : FunOk Try.prog 15 cellw_Sum_fun := evFun_ok mixed ctx0 (no_calls) Try.func15 (by kernel_rfl) _ (fun x => congrArg Tr.run (cellw_Sum_ev x)) (by kernel_rfl) (by kernel_rfl)
/-! ### boustrophedon/cells.Starts -/
noncomputable def cells_Starts_L4 (starts4 : List Int) (sum5 : Int) (t11 : List Int) (t12 : Int) (t13 : Int) : Tr (Lap (List Int × Int × List Int × Int × Int) (List Int × Int)) :=
  .br (decide (t13 < t12)) (
    .bnd (idx t11 t13) fun x_2 =>
    .bnd (idx starts4 t13) fun x_3 =>
    .pure (.next (starts4.set (Int.toNat t13) sum5, IntKind.i64.wrap (sum5 + x_2), t11, t12, IntKind.i64.wrap (t13 + 1)))) (
    .pure (.done (starts4, sum5)))
noncomputable def cells_Starts_T (widths0 : List Int) : Tr (List Int × Int) :=
  .bnd (mk 17592186044416 0 (widths0.length : Int)) fun r_1 =>
  .bnd (loopW (fun s => (cells_Starts_L4 s.1 s.2.1 s.2.2.1 s.2.2.2.1 s.2.2.2.2).run) (r_1, 0, widths0, (widths0.length : Int), 0)) fun l_4 =>
  .pure (l_4.1, l_4.2)
noncomputable def cells_Starts_F (widths0 : List Int) : Option (List Int × Int) := (cells_Starts_T widths0).run
def cells_Starts_L : List (Nat × LoopAnn) := [(4, { head := [.srow 4 1000004 3 true (.int .i64), .sv 5 true (.int .i64), .sv 11 false (.sl (.int .i64)), .sv 12 true (.int .i64), .sv 13 true (.int .i64)], xid := 0, out := [.srow 4 1000004 3 true (.int .i64), .sv 5 true (.int .i64)], hasRet := false, res := [] })]
noncomputable def cells_Starts_C : List (Nat × Fun) := []
noncomputable def cells_Starts_fun : Fun := ⟨[.sl (.int .i64)], [.row 3 (.int .i64), .v (.int .i64)], fun x => cells_Starts_F x.1⟩
theorem cells_Starts_ev (x : Tys.I [.sl (.int .i64)]) : evFun G0 (fun f => olook f cells_Starts_C) ⟨[]⟩ (fun i => olook i cells_Starts_L) Try.f33 [.sl (.int .i64)] [.row 3 (.int .i64), .v (.int .i64)] x = cells_Starts_T x.1 := by kernel_rfl
theorem cells_Starts_ok : FunOk Try.prog 33 cells_Starts_fun := evFun_ok mixed ctx0 (no_calls) Try.func33 (by kernel_rfl) _ (fun x => congrArg Tr.run (cells_Starts_ev x)) (by kernel_rfl) (by kernel_rfl)
/-! ### boustrophedon/selects.Bands -/
noncomputable def selects_Bands_L5 (t1 : List Int) (t2 : Int) (t3 : Int) (t10 : List Int) (t12 : List (Int × Int)) (t32 : List Int) (t33 : Int) (t34 : Int) : Tr (Lap (List Int × Int × Int × List Int × (List (Int × Int)) × List Int × Int × Int) (List (Int × Int))) :=
  .br (decide (t34 < t33)) (
    .bnd (idx t32 t34) fun x_4 =>
    .bnd (idx t1 t34) fun x_5 =>
    .br (decide (x_5 ≤ 0)) (
      .pure (.next (t1, t2, t3, t10, t12, t32, t33, IntKind.i64.wrap (t34 + 1)))) (
      .br (decide (x_4 < t2)) (
        .pure (.next (t1, t2, t3, t10, t12, t32, t33, IntKind.i64.wrap (t34 + 1)))) (
        .br (decide (x_4 ≥ t3)) (
          .pure (.next (t1, t2, t3, t10, t12, t32, t33, IntKind.i64.wrap (t34 + 1)))) (
          .bnd (idx t10 t34) fun x_6 =>
          .bnd (idx t10 t34) fun x_7 =>
          .bnd (idx t1 t34) fun x_8 =>
          .br (decide ((IntKind.i64.wrap ((t12.length : Int) - 1)) ≥ 0)) (
            .bnd (idx t12 (IntKind.i64.wrap ((t12.length : Int) - 1))) fun x_9 =>
            .br (x_9.2 == x_6) (
              .bnd (idx t12 (IntKind.i64.wrap ((t12.length : Int) - 1))) fun x_10 =>
              .bnd (idx t12 (IntKind.i64.wrap ((t12.length : Int) - 1))) fun x_11 =>
              .pure (.next (t1, t2, t3, t10, t12.set (Int.toNat (IntKind.i64.wrap ((t12.length : Int) - 1))) (x_11.1, IntKind.i64.wrap (x_7 + x_8)), t32, t33, IntKind.i64.wrap (t34 + 1)))) (
              .bnd (app 8796093022208 t12 ([(x_6, IntKind.i64.wrap (x_7 + x_8))])) fun r_12 =>
              .pure (.next (t1, t2, t3, t10, r_12, t32, t33, IntKind.i64.wrap (t34 + 1))))) (
            .bnd (app 8796093022208 t12 ([(x_6, IntKind.i64.wrap (x_7 + x_8))])) fun r_13 =>
            .pure (.next (t1, t2, t3, t10, r_13, t32, t33, IntKind.i64.wrap (t34 + 1)))))))) (
    .pure (.done t12))
noncomputable def selects_Bands_T (t0 : List Int) (t1 : List Int) (t2 : Int) (t3 : Int) : Tr (List (Int × Int)) :=
  .bnd (cut t1 0 (if (t1.length : Int) < (t0.length : Int) then (t1.length : Int) else (t0.length : Int))) fun r_1 =>
  .bnd (cells_Starts_F r_1) fun c_2 =>
  .bnd (cut t0 0 (if (t1.length : Int) < (t0.length : Int) then (t1.length : Int) else (t0.length : Int))) fun r_3 =>
  .bnd (loopW (fun s => (selects_Bands_L5 s.1 s.2.1 s.2.2.1 s.2.2.2.1 s.2.2.2.2.1 s.2.2.2.2.2.1 s.2.2.2.2.2.2.1 s.2.2.2.2.2.2.2).run) (t1, t2, t3, c_2.1, [], r_3, (r_3.length : Int), 0)) fun l_14 =>
  .pure l_14
noncomputable def selects_Bands_F (t0 : List Int) (t1 : List Int) (t2 : Int) (t3 : Int) : Option (List (Int × Int)) := (selects_Bands_T t0 t1 t2 t3).run
def selects_Bands_L : List (Nat × LoopAnn) := [(5, { head := [.sv 1 false (.sl (.int .i64)), .sv 2 false (.int .i64), .sv 3 false (.int .i64), .srow 10 1000010 3 true (.int .i64), .srow 12 1000012 44 true (.st (.pair (.int .i64) (.int .i64))), .sv 32 false (.sl (.int .i64)), .sv 33 true (.int .i64), .sv 34 true (.int .i64)], xid := 0, out := [.srow 12 1000012 44 true (.st (.pair (.int .i64) (.int .i64)))], hasRet := false, res := [] })]
noncomputable def selects_Bands_C : List (Nat × Fun) := [(33, cells_Starts_fun)]
noncomputable def selects_Bands_fun : Fun := ⟨[.sl (.int .i64), .sl (.int .i64), .int .i64, .int .i64], [.row 44 (.st (.pair (.int .i64) (.int .i64)))], fun x => selects_Bands_F x.1 x.2.1 x.2.2.1 x.2.2.2.1⟩
theorem selects_Bands_ev (x : Tys.I [.sl (.int .i64), .sl (.int .i64), .int .i64, .int .i64]) : evFun G0 (fun f => olook f selects_Bands_C) ⟨[]⟩ (fun i => olook i selects_Bands_L) Try.f20 [.sl (.int .i64), .sl (.int .i64), .int .i64, .int .i64] [.row 44 (.st (.pair (.int .i64) (.int .i64)))] x = selects_Bands_T x.1 x.2.1 x.2.2.1 x.2.2.2.1 := by kernel_rfl
theorem selects_Bands_ok : FunOk Try.prog 20 selects_Bands_fun := evFun_ok mixed ctx0 (cons_calls cells_Starts_ok (no_calls)) Try.func20 (by kernel_rfl) _ (fun x => congrArg Tr.run (selects_Bands_ev x)) (by kernel_rfl) (by kernel_rfl)
/-! ### boustrophedon/selects.Places -/
noncomputable def selects_Places_L5 (t1 : List Int) (t2 : Int) (t3 : Int) (t9 : Int) (t10 : List Int) (t12 : List Bool) (t36 : List Int) (t37 : Int) (t38 : Int) : Tr (Lap (List Int × Int × Int × Int × List Int × List Bool × List Int × Int × Int) (List Bool)) :=
  .br (decide (t38 < t37)) (
    .bnd (idx t36 t38) fun x_5 =>
    .bnd (idx t10 t38) fun x_6 =>
    .bnd (idx t10 t38) fun x_7 =>
    .bnd (idx t1 t38) fun x_8 =>
    .br (decide (0 ≤ x_5)) (
      .br (decide (x_5 < t9)) (
        .br (decide ((if t2 > x_6 then t2 else x_6) < (if t3 < (IntKind.i64.wrap (x_7 + x_8)) then t3 else (IntKind.i64.wrap (x_7 + x_8))))) (
          .bnd (idx t12 x_5) fun x_9 =>
          .pure (.next (t1, t2, t3, t9, t10, t12.set (Int.toNat x_5) true, t36, t37, IntKind.i64.wrap (t38 + 1)))) (
          .pure (.next (t1, t2, t3, t9, t10, t12, t36, t37, IntKind.i64.wrap (t38 + 1))))) (
        .pure (.next (t1, t2, t3, t9, t10, t12, t36, t37, IntKind.i64.wrap (t38 + 1))))) (
      .pure (.next (t1, t2, t3, t9, t10, t12, t36, t37, IntKind.i64.wrap (t38 + 1))))) (
    .pure (.done t12))
noncomputable def selects_Places_L13 (t17 : List Int) (t76 : List Bool) (t77 : Int) (t78 : Int) : Tr (Lap (List Int × List Bool × Int × Int) (List Int)) :=
  .br (decide (t78 < t77)) (
    .bnd (idx t76 t78) fun x_11 =>
    .br x_11 (
      .bnd (app 17592186044416 t17 ([t78])) fun r_12 =>
      .pure (.next (r_12, t76, t77, IntKind.i64.wrap (t78 + 1)))) (
      .pure (.next (t17, t76, t77, IntKind.i64.wrap (t78 + 1))))) (
    .pure (.done t17))
noncomputable def selects_Places_T (t0 : List Int) (t1 : List Int) (t2 : Int) (t3 : Int) : Tr (List Int) :=
  .bnd (cut t1 0 (if (t1.length : Int) < (t0.length : Int) then (t1.length : Int) else (t0.length : Int))) fun r_1 =>
  .bnd (cells_Starts_F r_1) fun c_2 =>
  .bnd (mk 140737488355328 false (if (t1.length : Int) < (t0.length : Int) then (t1.length : Int) else (t0.length : Int))) fun r_3 =>
  .bnd (cut t0 0 (if (t1.length : Int) < (t0.length : Int) then (t1.length : Int) else (t0.length : Int))) fun r_4 =>
  .bnd (loopW (fun s => (selects_Places_L5 s.1 s.2.1 s.2.2.1 s.2.2.2.1 s.2.2.2.2.1 s.2.2.2.2.2.1 s.2.2.2.2.2.2.1 s.2.2.2.2.2.2.2.1 s.2.2.2.2.2.2.2.2).run) (t1, t2, t3, if (t1.length : Int) < (t0.length : Int) then (t1.length : Int) else (t0.length : Int), c_2.1, r_3, r_4, (r_4.length : Int), 0)) fun l_10 =>
  .bnd (loopW (fun s => (selects_Places_L13 s.1 s.2.1 s.2.2.1 s.2.2.2).run) ([], l_10, (l_10.length : Int), 0)) fun l_13 =>
  .pure l_13
noncomputable def selects_Places_F (t0 : List Int) (t1 : List Int) (t2 : Int) (t3 : Int) : Option (List Int) := (selects_Places_T t0 t1 t2 t3).run
def selects_Places_L : List (Nat × LoopAnn) := [(5, { head := [.sv 1 false (.sl (.int .i64)), .sv 2 false (.int .i64), .sv 3 false (.int .i64), .sv 9 true (.int .i64), .srow 10 1000010 3 true (.int .i64), .srow 12 1000012 4 true .bool, .sv 36 false (.sl (.int .i64)), .sv 37 true (.int .i64), .sv 38 true (.int .i64)], xid := 0, out := [.srow 12 1000012 4 true .bool], hasRet := false, res := [] }), (13, { head := [.srow 17 1000017 3 true (.int .i64), .srow 76 1000076 4 true .bool, .sv 77 true (.int .i64), .sv 78 true (.int .i64)], xid := 2, out := [.srow 17 1000017 3 true (.int .i64)], hasRet := false, res := [] })]
noncomputable def selects_Places_C : List (Nat × Fun) := [(33, cells_Starts_fun)]
noncomputable def selects_Places_fun : Fun := ⟨[.sl (.int .i64), .sl (.int .i64), .int .i64, .int .i64], [.row 3 (.int .i64)], fun x => selects_Places_F x.1 x.2.1 x.2.2.1 x.2.2.2.1⟩
theorem selects_Places_ev (x : Tys.I [.sl (.int .i64), .sl (.int .i64), .int .i64, .int .i64]) : evFun G0 (fun f => olook f selects_Places_C) ⟨[]⟩ (fun i => olook i selects_Places_L) Try.f22 [.sl (.int .i64), .sl (.int .i64), .int .i64, .int .i64] [.row 3 (.int .i64)] x = selects_Places_T x.1 x.2.1 x.2.2.1 x.2.2.2.1 := by kernel_rfl
theorem selects_Places_ok : FunOk Try.prog 22 selects_Places_fun := evFun_ok mixed ctx0 (cons_calls cells_Starts_ok (no_calls)) Try.func22 (by kernel_rfl) _ (fun x => congrArg Tr.run (selects_Places_ev x)) (by kernel_rfl) (by kernel_rfl)
/-! ### boustrophedon/boustrophedonlaw35.awake -/
noncomputable def law35_awake_T : Tr Bool :=
  .bnd (selects_Bands_F ([0, 2, 1, 3]) ([1, 1, 1, 1]) 1 3) fun c_1 =>
  .bnd (selects_Bands_F ([0, 2, 1, 3]) ([1, 1, 1, 1]) 0 2) fun c_2 =>
  .br ((c_1.length : Int) == 1) (
    .bnd (idx c_1 0) fun x_3 =>
    .br ((x_3.1 == 1) && (x_3.2 == 3)) (
      .br ((c_2.length : Int) == 2) (
        .bnd (idx c_2 1) fun x_4 =>
        .br ((x_4.1 == 2) && (x_4.2 == 3)) (
          .bnd (selects_Places_F ([0, 2, 1, 3]) ([1, 1, 1, 1]) 1 2) fun c_5 =>
          .bnd (law25_Same_F c_5 ([2])) fun c_6 =>
          .pure c_6) (
          .pure false)) (
        .pure false)) (
      .pure false)) (
    .pure false)
noncomputable def law35_awake_F : Option Bool := (law35_awake_T).run
def law35_awake_L : List (Nat × LoopAnn) := []
noncomputable def law35_awake_C : List (Nat × Fun) := [(20, selects_Bands_fun), (22, selects_Places_fun), (16, law25_Same_fun)]
noncomputable def law35_awake_fun : Fun := ⟨[], [.v .bool], fun _ => law35_awake_F⟩
theorem law35_awake_ev (x : Tys.I []) : evFun G0 (fun f => olook f law35_awake_C) ⟨[]⟩ (fun i => olook i law35_awake_L) Try.f17 [] [.v .bool] x = law35_awake_T := by kernel_rfl
theorem law35_awake_ok : FunOk Try.prog 17 law35_awake_fun := evFun_ok mixed ctx0 (cons_calls selects_Bands_ok (cons_calls selects_Places_ok (cons_calls law25_Same_ok (no_calls)))) Try.func17 (by kernel_rfl) _ (fun x => congrArg Tr.run (law35_awake_ev x)) (by kernel_rfl) (by kernel_rfl)
/-! ### boustrophedon/boustrophedonlaw12.Levels -/
noncomputable def law12_Levels_L3 (ns0 : List Int) (out3 : List Int) (k4 : Int) : Tr (Lap (List Int × List Int × Int) (List Int)) :=
  .br (decide (k4 < (ns0.length : Int))) (
    .bnd (idx ns0 k4) fun x_1 =>
    .br ((x_1.tmod 8) == 7) (
      .bnd (app 17592186044416 out3 ([(-1)])) fun r_2 =>
      .pure (.next (ns0, r_2, IntKind.i64.wrap (k4 + 1)))) (
      .bnd (idx ns0 k4) fun x_3 =>
      .bnd (app 17592186044416 out3 ([(IntKind.i64.wrap (IntKind.u8.wrap (x_3.tdiv 8))).tmod 6])) fun r_4 =>
      .pure (.next (ns0, r_4, IntKind.i64.wrap (k4 + 1))))) (
    .pure (.done out3))
noncomputable def law12_Levels_T (ns0 : List Int) : Tr (List Int) :=
  .bnd (loopW (fun s => (law12_Levels_L3 s.1 s.2.1 s.2.2).run) (ns0, [], 0)) fun l_5 =>
  .pure l_5
noncomputable def law12_Levels_F (ns0 : List Int) : Option (List Int) := (law12_Levels_T ns0).run
def law12_Levels_L : List (Nat × LoopAnn) := [(3, { head := [.sv 0 false (.sl (.int .u8)), .srow 3 1000003 3 true (.int .i64), .sv 4 true (.int .i64)], xid := 0, out := [.srow 3 1000003 3 true (.int .i64)], hasRet := false, res := [] })]
noncomputable def law12_Levels_C : List (Nat × Fun) := []
noncomputable def law12_Levels_fun : Fun := ⟨[.sl (.int .u8)], [.row 3 (.int .i64)], fun x => law12_Levels_F x.1⟩
theorem law12_Levels_ev (x : Tys.I [.sl (.int .u8)]) : evFun G0 (fun f => olook f law12_Levels_C) ⟨[]⟩ (fun i => olook i law12_Levels_L) Try.f24 [.sl (.int .u8)] [.row 3 (.int .i64)] x = law12_Levels_T x.1 := by kernel_rfl
theorem law12_Levels_ok : FunOk Try.prog 24 law12_Levels_fun := evFun_ok mixed ctx0 (no_calls) Try.func24 (by kernel_rfl) _ (fun x => congrArg Tr.run (law12_Levels_ev x)) (by kernel_rfl) (by kernel_rfl)
/-! ### boustrophedon/boustrophedonlaw35.cover -/
noncomputable def law35_cover_L6 (v0 : List Int) (w1 : List Int) (from2 : Int) (to3 : Int) (out9 : List Bool) (k10 : Int) (i11 : Int) : Tr (Lap (List Int × List Int × Int × Int × List Bool × Int × Int) (List Int × List Int × Int × Int × List Bool × Int)) :=
  .bnd (idx w1 k10) fun x_1 =>
  .br (decide (i11 < x_1)) (
    .bnd (idx v0 k10) fun x_2 =>
    .br (decide (x_2 ≥ from2)) (
      .bnd (idx v0 k10) fun x_3 =>
      .bnd (app 140737488355328 out9 ([decide (x_3 < to3)])) fun r_4 =>
      .pure (.next (v0, w1, from2, to3, r_4, k10, IntKind.i64.wrap (i11 + 1)))) (
      .bnd (app 140737488355328 out9 ([false])) fun r_5 =>
      .pure (.next (v0, w1, from2, to3, r_5, k10, IntKind.i64.wrap (i11 + 1))))) (
    .pure (.done (v0, w1, from2, to3, out9, k10)))
noncomputable def law35_cover_L3 (v0 : List Int) (w1 : List Int) (from2 : Int) (to3 : Int) (out9 : List Bool) (k10 : Int) : Tr (Lap (List Int × List Int × Int × Int × List Bool × Int) (List Bool)) :=
  .br (decide (k10 < (v0.length : Int))) (
    .br (decide (k10 < (w1.length : Int))) (
      .bnd (loopW (fun s => (law35_cover_L6 s.1 s.2.1 s.2.2.1 s.2.2.2.1 s.2.2.2.2.1 s.2.2.2.2.2.1 s.2.2.2.2.2.2).run) (v0, w1, from2, to3, out9, k10, 0)) fun l_6 =>
      .pure (.next (l_6.1, l_6.2.1, l_6.2.2.1, l_6.2.2.2.1, l_6.2.2.2.2.1, IntKind.i64.wrap (l_6.2.2.2.2.2 + 1)))) (
      .pure (.done out9))) (
    .pure (.done out9))
noncomputable def law35_cover_T (v0 : List Int) (w1 : List Int) (from2 : Int) (to3 : Int) : Tr (List Bool) :=
  .bnd (loopW (fun s => (law35_cover_L3 s.1 s.2.1 s.2.2.1 s.2.2.2.1 s.2.2.2.2.1 s.2.2.2.2.2).run) (v0, w1, from2, to3, [], 0)) fun l_7 =>
  .pure l_7
noncomputable def law35_cover_F (v0 : List Int) (w1 : List Int) (from2 : Int) (to3 : Int) : Option (List Bool) := (law35_cover_T v0 w1 from2 to3).run
def law35_cover_L : List (Nat × LoopAnn) := [(6, { head := [.sv 0 false (.sl (.int .i64)), .sv 1 false (.sl (.int .i64)), .sv 2 false (.int .i64), .sv 3 false (.int .i64), .srow 9 1000009 4 true .bool, .sv 10 true (.int .i64), .sv 11 true (.int .i64)], xid := 2, out := [.sv 0 false (.sl (.int .i64)), .sv 1 false (.sl (.int .i64)), .sv 2 false (.int .i64), .sv 3 false (.int .i64), .srow 9 1000009 4 true .bool, .sv 10 true (.int .i64)], hasRet := false, res := [] }), (3, { head := [.sv 0 false (.sl (.int .i64)), .sv 1 false (.sl (.int .i64)), .sv 2 false (.int .i64), .sv 3 false (.int .i64), .srow 9 1000009 4 true .bool, .sv 10 true (.int .i64)], xid := 0, out := [.srow 9 1000009 4 true .bool], hasRet := false, res := [] })]
noncomputable def law35_cover_C : List (Nat × Fun) := []
noncomputable def law35_cover_fun : Fun := ⟨[.sl (.int .i64), .sl (.int .i64), .int .i64, .int .i64], [.row 4 .bool], fun x => law35_cover_F x.1 x.2.1 x.2.2.1 x.2.2.2.1⟩
theorem law35_cover_ev (x : Tys.I [.sl (.int .i64), .sl (.int .i64), .int .i64, .int .i64]) : evFun G0 (fun f => olook f law35_cover_C) ⟨[]⟩ (fun i => olook i law35_cover_L) Try.f19 [.sl (.int .i64), .sl (.int .i64), .int .i64, .int .i64] [.row 4 .bool] x = law35_cover_T x.1 x.2.1 x.2.2.1 x.2.2.2.1 := by kernel_rfl
theorem law35_cover_ok : FunOk Try.prog 19 law35_cover_fun := evFun_ok mixed ctx0 (no_calls) Try.func19 (by kernel_rfl) _ (fun x => congrArg Tr.run (law35_cover_ev x)) (by kernel_rfl) (by kernel_rfl)
/-! ### boustrophedon/selects.Cells -/
noncomputable def selects_Cells_L3 (sum3 : Int) (t6 : List (Int × Int)) (t7 : Int) (t8 : Int) : Tr (Lap (Int × (List (Int × Int)) × Int × Int) Int) :=
  .br (decide (t8 < t7)) (
    .bnd (idx t6 t8) fun x_1 =>
    .bnd (idx ([x_1]) 0) fun x_2 =>
    .bnd (idx ([x_1]) 0) fun x_3 =>
    .pure (.next (IntKind.i64.wrap (sum3 + (IntKind.i64.wrap (x_2.2 - x_3.1))), t6, t7, IntKind.i64.wrap (t8 + 1)))) (
    .pure (.done sum3))
noncomputable def selects_Cells_T (bands0 : List (Int × Int)) : Tr Int :=
  .bnd (loopW (fun s => (selects_Cells_L3 s.1 s.2.1 s.2.2.1 s.2.2.2).run) (0, bands0, (bands0.length : Int), 0)) fun l_4 =>
  .pure l_4
noncomputable def selects_Cells_F (bands0 : List (Int × Int)) : Option Int := (selects_Cells_T bands0).run
def selects_Cells_L : List (Nat × LoopAnn) := [(3, { head := [.sv 3 true (.int .i64), .sv 6 false (.sl (.st (.pair (.int .i64) (.int .i64)))), .sv 7 true (.int .i64), .sv 8 true (.int .i64)], xid := 0, out := [.sv 3 true (.int .i64)], hasRet := false, res := [] })]
noncomputable def selects_Cells_C : List (Nat × Fun) := []
noncomputable def selects_Cells_fun : Fun := ⟨[.sl (.st (.pair (.int .i64) (.int .i64)))], [.v (.int .i64)], fun x => selects_Cells_F x.1⟩
theorem selects_Cells_ev (x : Tys.I [.sl (.st (.pair (.int .i64) (.int .i64)))]) : evFun G0 (fun f => olook f selects_Cells_C) ⟨[]⟩ (fun i => olook i selects_Cells_L) Try.f21 [.sl (.st (.pair (.int .i64) (.int .i64)))] [.v (.int .i64)] x = selects_Cells_T x.1 := by kernel_rfl
theorem selects_Cells_ok : FunOk Try.prog 21 selects_Cells_fun := evFun_ok mixed ctx0 (no_calls) Try.func21 (by kernel_rfl) _ (fun x => congrArg Tr.run (selects_Cells_ev x)) (by kernel_rfl) (by kernel_rfl)
/-! ### boustrophedon/boustrophedonlaw35.SelectsPlaces -/
noncomputable def law35_SelectsPlaces_L12 (t0 : List Int) (t2 : Int) (t3 : Int) (t9 : List Int) (t10 : Int) (t11 : List Int) (t12 : Int) (t13 : Bool) (t14 : Int) (t15 : Int) : Tr (Lap (List Int × Int × Int × List Int × Int × List Int × Int × Bool × Int × Int) (List Int × Int × Int × List Int × Int × List Int × Int × Bool)) :=
  .br (decide (t15 < t10)) (
    .bnd (idx t0 t15) fun x_3 =>
    .br (x_3 == t12) (
      .bnd (idx t9 t15) fun x_4 =>
      .br (decide (x_4 > 0)) (
        .br (decide (t2 < t3)) (
          .br (decide (t14 < t3)) (
            .bnd (idx t9 t15) fun x_5 =>
            .br (decide ((IntKind.i64.wrap (t14 + x_5)) > t2)) (
              .bnd (idx t9 t15) fun x_6 =>
              .pure (.next (t0, t2, t3, t9, t10, t11, t12, true, IntKind.i64.wrap (t14 + x_6), IntKind.i64.wrap (t15 + 1)))) (
              .bnd (idx t9 t15) fun x_7 =>
              .pure (.next (t0, t2, t3, t9, t10, t11, t12, t13, IntKind.i64.wrap (t14 + x_7), IntKind.i64.wrap (t15 + 1))))) (
            .bnd (idx t9 t15) fun x_8 =>
            .pure (.next (t0, t2, t3, t9, t10, t11, t12, t13, IntKind.i64.wrap (t14 + x_8), IntKind.i64.wrap (t15 + 1))))) (
          .bnd (idx t9 t15) fun x_9 =>
          .pure (.next (t0, t2, t3, t9, t10, t11, t12, t13, IntKind.i64.wrap (t14 + x_9), IntKind.i64.wrap (t15 + 1))))) (
        .bnd (idx t9 t15) fun x_10 =>
        .pure (.next (t0, t2, t3, t9, t10, t11, t12, t13, IntKind.i64.wrap (t14 + x_10), IntKind.i64.wrap (t15 + 1))))) (
      .bnd (idx t9 t15) fun x_11 =>
      .pure (.next (t0, t2, t3, t9, t10, t11, t12, t13, IntKind.i64.wrap (t14 + x_11), IntKind.i64.wrap (t15 + 1))))) (
    .pure (.done (t0, t2, t3, t9, t10, t11, t12, t13)))
noncomputable def law35_SelectsPlaces_L7 (t0 : List Int) (t2 : Int) (t3 : Int) (t9 : List Int) (t10 : Int) (t11 : List Int) (t12 : Int) : Tr (Lap (List Int × Int × Int × List Int × Int × List Int × Int) (List Int × Int × Int × List Int × List Int)) :=
  .br (decide (t12 < t10)) (
    .bnd (loopW (fun s => (law35_SelectsPlaces_L12 s.1 s.2.1 s.2.2.1 s.2.2.2.1 s.2.2.2.2.1 s.2.2.2.2.2.1 s.2.2.2.2.2.2.1 s.2.2.2.2.2.2.2.1 s.2.2.2.2.2.2.2.2.1 s.2.2.2.2.2.2.2.2.2).run) (t0, t2, t3, t9, t10, t11, t12, false, 0, 0)) fun l_12 =>
    .br l_12.2.2.2.2.2.2.2 (
      .bnd (app 17592186044416 l_12.2.2.2.2.2.1 ([l_12.2.2.2.2.2.2.1])) fun r_13 =>
      .pure (.next (l_12.1, l_12.2.1, l_12.2.2.1, l_12.2.2.2.1, l_12.2.2.2.2.1, r_13, IntKind.i64.wrap (l_12.2.2.2.2.2.2.1 + 1)))) (
      .pure (.next (l_12.1, l_12.2.1, l_12.2.2.1, l_12.2.2.2.1, l_12.2.2.2.2.1, l_12.2.2.2.2.2.1, IntKind.i64.wrap (l_12.2.2.2.2.2.2.1 + 1))))) (
    .pure (.done (t0, t2, t3, t9, t11)))
noncomputable def law35_SelectsPlaces_T (t0 : List Int) (t1 : List Int) (t2 : Int) (t3 : Int) : Tr Bool :=
  .bnd law35_awake_F fun c_1 =>
  .br (!c_1) (
    .pure false) (
    .bnd (law22_Widths_F t1) fun c_2 =>
    .bnd (loopW (fun s => (law35_SelectsPlaces_L7 s.1 s.2.1 s.2.2.1 s.2.2.2.1 s.2.2.2.2.1 s.2.2.2.2.2.1 s.2.2.2.2.2.2).run) (t0, t2, t3, c_2, if (c_2.length : Int) < (t0.length : Int) then (c_2.length : Int) else (t0.length : Int), [], 0)) fun l_14 =>
    .bnd (selects_Places_F l_14.1 l_14.2.2.2.1 l_14.2.1 l_14.2.2.1) fun c_15 =>
    .bnd (law25_Same_F c_15 l_14.2.2.2.2) fun c_16 =>
    .pure c_16)
noncomputable def law35_SelectsPlaces_F (t0 : List Int) (t1 : List Int) (t2 : Int) (t3 : Int) : Option Bool := (law35_SelectsPlaces_T t0 t1 t2 t3).run
def law35_SelectsPlaces_L : List (Nat × LoopAnn) := [(12, { head := [.sv 0 false (.sl (.int .i64)), .sv 2 false (.int .i64), .sv 3 false (.int .i64), .srow 9 1000009 3 true (.int .i64), .sv 10 true (.int .i64), .srow 11 1000011 3 true (.int .i64), .sv 12 true (.int .i64), .sv 13 true .bool, .sv 14 true (.int .i64), .sv 15 true (.int .i64)], xid := 2, out := [.sv 0 false (.sl (.int .i64)), .sv 2 false (.int .i64), .sv 3 false (.int .i64), .srow 9 1000009 3 true (.int .i64), .sv 10 true (.int .i64), .srow 11 1000011 3 true (.int .i64), .sv 12 true (.int .i64), .sv 13 true .bool], hasRet := false, res := [] }), (7, { head := [.sv 0 false (.sl (.int .i64)), .sv 2 false (.int .i64), .sv 3 false (.int .i64), .srow 9 1000009 3 true (.int .i64), .sv 10 true (.int .i64), .srow 11 1000011 3 true (.int .i64), .sv 12 true (.int .i64)], xid := 0, out := [.sv 0 false (.sl (.int .i64)), .sv 2 false (.int .i64), .sv 3 false (.int .i64), .srow 9 1000009 3 true (.int .i64), .srow 11 1000011 3 true (.int .i64)], hasRet := false, res := [] })]
noncomputable def law35_SelectsPlaces_C : List (Nat × Fun) := [(17, law35_awake_fun), (13, law22_Widths_fun), (22, selects_Places_fun), (16, law25_Same_fun)]
noncomputable def law35_SelectsPlaces_fun : Fun := ⟨[.sl (.int .i64), .sl (.int .u8), .int .i64, .int .i64], [.v .bool], fun x => law35_SelectsPlaces_F x.1 x.2.1 x.2.2.1 x.2.2.2.1⟩
theorem law35_SelectsPlaces_ev (x : Tys.I [.sl (.int .i64), .sl (.int .u8), .int .i64, .int .i64]) : evFun G0 (fun f => olook f law35_SelectsPlaces_C) ⟨[]⟩ (fun i => olook i law35_SelectsPlaces_L) Try.f7 [.sl (.int .i64), .sl (.int .u8), .int .i64, .int .i64] [.v .bool] x = law35_SelectsPlaces_T x.1 x.2.1 x.2.2.1 x.2.2.2.1 := by kernel_rfl
theorem law35_SelectsPlaces_ok : FunOk Try.prog 7 law35_SelectsPlaces_fun := evFun_ok mixed ctx0 (cons_calls law35_awake_ok (cons_calls law22_Widths_ok (cons_calls selects_Places_ok (cons_calls law25_Same_ok (no_calls))))) Try.func7 (by kernel_rfl) _ (fun x => congrArg Tr.run (law35_SelectsPlaces_ev x)) (by kernel_rfl) (by kernel_rfl)
/-! ### boustrophedon/bidic.Isolate -/
noncomputable def bidic_Isolate_T (c0 : Int) : Tr Bool :=
  .br (c0 == 19) (
    .pure true) (
    .br (c0 == 20) (
      .pure true) (
      .pure (c0 == 21)))
noncomputable def bidic_Isolate_F (c0 : Int) : Option Bool := (bidic_Isolate_T c0).run
def bidic_Isolate_L : List (Nat × LoopAnn) := []
noncomputable def bidic_Isolate_C : List (Nat × Fun) := []
noncomputable def bidic_Isolate_fun : Fun := ⟨[.int .u8], [.v .bool], fun x => bidic_Isolate_F x.1⟩
theorem bidic_Isolate_ev (x : Tys.I [.int .u8]) : evFun G0 (fun f => olook f bidic_Isolate_C) ⟨[]⟩ (fun i => olook i bidic_Isolate_L) Try.f37 [.int .u8] [.v .bool] x = bidic_Isolate_T x.1 := by kernel_rfl
theorem bidic_Isolate_ok : FunOk Try.prog 37 bidic_Isolate_fun := evFun_ok mixed ctx0 (no_calls) Try.func37 (by kernel_rfl) _ (fun x => congrArg Tr.run (bidic_Isolate_ev x)) (by kernel_rfl) (by kernel_rfl)
/-! ### boustrophedon/bidic.Embedding -/
noncomputable def bidic_Embedding_T (c0 : Int) : Tr Bool :=
  .br (c0 == 14) (
    .pure true) (
    .br (c0 == 15) (
      .pure true) (
      .br (c0 == 16) (
        .pure true) (
        .pure (c0 == 17))))
noncomputable def bidic_Embedding_F (c0 : Int) : Option Bool := (bidic_Embedding_T c0).run
def bidic_Embedding_L : List (Nat × LoopAnn) := []
noncomputable def bidic_Embedding_C : List (Nat × Fun) := []
noncomputable def bidic_Embedding_fun : Fun := ⟨[.int .u8], [.v .bool], fun x => bidic_Embedding_F x.1⟩
theorem bidic_Embedding_ev (x : Tys.I [.int .u8]) : evFun G0 (fun f => olook f bidic_Embedding_C) ⟨[]⟩ (fun i => olook i bidic_Embedding_L) Try.f40 [.int .u8] [.v .bool] x = bidic_Embedding_T x.1 := by kernel_rfl
theorem bidic_Embedding_ok : FunOk Try.prog 40 bidic_Embedding_fun := evFun_ok mixed ctx0 (no_calls) Try.func40 (by kernel_rfl) _ (fun x => congrArg Tr.run (bidic_Embedding_ev x)) (by kernel_rfl) (by kernel_rfl)
/-! ### boustrophedon/bidic.Taken -/
noncomputable def bidic_Taken_T (c0 : Int) : Tr Bool :=
  .bnd (bidic_Embedding_F c0) fun c_1 =>
  .br c_1 (
    .pure true) (
    .br (c0 == 18) (
      .pure true) (
      .pure (c0 == 9)))
noncomputable def bidic_Taken_F (c0 : Int) : Option Bool := (bidic_Taken_T c0).run
def bidic_Taken_L : List (Nat × LoopAnn) := []
noncomputable def bidic_Taken_C : List (Nat × Fun) := [(40, bidic_Embedding_fun)]
noncomputable def bidic_Taken_fun : Fun := ⟨[.int .u8], [.v .bool], fun x => bidic_Taken_F x.1⟩
theorem bidic_Taken_ev (x : Tys.I [.int .u8]) : evFun G0 (fun f => olook f bidic_Taken_C) ⟨[]⟩ (fun i => olook i bidic_Taken_L) Try.f38 [.int .u8] [.v .bool] x = bidic_Taken_T x.1 := by kernel_rfl
theorem bidic_Taken_ok : FunOk Try.prog 38 bidic_Taken_fun := evFun_ok mixed ctx0 (cons_calls bidic_Embedding_ok (no_calls)) Try.func38 (by kernel_rfl) _ (fun x => congrArg Tr.run (bidic_Taken_ev x)) (by kernel_rfl) (by kernel_rfl)
/-! ### boustrophedon/relevel.blank -/
noncomputable def relevel_blank_T (c0 : Int) : Tr Bool :=
  .br (c0 == 12) (
    .pure true) (
    .br (c0 == 22) (
      .pure true) (
      .bnd (bidic_Isolate_F c0) fun c_1 =>
      .br c_1 (
        .pure true) (
        .bnd (bidic_Taken_F c0) fun c_2 =>
        .pure c_2)))
noncomputable def relevel_blank_F (c0 : Int) : Option Bool := (relevel_blank_T c0).run
def relevel_blank_L : List (Nat × LoopAnn) := []
noncomputable def relevel_blank_C : List (Nat × Fun) := [(37, bidic_Isolate_fun), (38, bidic_Taken_fun)]
noncomputable def relevel_blank_fun : Fun := ⟨[.int .u8], [.v .bool], fun x => relevel_blank_F x.1⟩
theorem relevel_blank_ev (x : Tys.I [.int .u8]) : evFun G0 (fun f => olook f relevel_blank_C) ⟨[]⟩ (fun i => olook i relevel_blank_L) Try.f34 [.int .u8] [.v .bool] x = relevel_blank_T x.1 := by kernel_rfl
theorem relevel_blank_ok : FunOk Try.prog 34 relevel_blank_fun := evFun_ok mixed ctx0 (cons_calls bidic_Isolate_ok (cons_calls bidic_Taken_ok (no_calls))) Try.func34 (by kernel_rfl) _ (fun x => congrArg Tr.run (relevel_blank_ev x)) (by kernel_rfl) (by kernel_rfl)
/-! ### boustrophedon/boustrophedonlaw08.Classes -/
noncomputable def law08_Classes_L3 (ns0 : List Int) (out3 : List Int) (k4 : Int) : Tr (Lap (List Int × List Int × Int) (List Int)) :=
  .br (decide (k4 < (ns0.length : Int))) (
    .bnd (idx ns0 k4) fun x_1 =>
    .bnd (app 140737488355328 out3 ([x_1.tmod 23])) fun r_2 =>
    .pure (.next (ns0, r_2, IntKind.i64.wrap (k4 + 1)))) (
    .pure (.done out3))
noncomputable def law08_Classes_T (ns0 : List Int) : Tr (List Int) :=
  .bnd (loopW (fun s => (law08_Classes_L3 s.1 s.2.1 s.2.2).run) (ns0, [], 0)) fun l_3 =>
  .pure l_3
noncomputable def law08_Classes_F (ns0 : List Int) : Option (List Int) := (law08_Classes_T ns0).run
def law08_Classes_L : List (Nat × LoopAnn) := [(3, { head := [.sv 0 false (.sl (.int .u8)), .srow 3 1000003 61 true (.int .u8), .sv 4 true (.int .i64)], xid := 0, out := [.srow 3 1000003 61 true (.int .u8)], hasRet := false, res := [] })]
noncomputable def law08_Classes_C : List (Nat × Fun) := []
noncomputable def law08_Classes_fun : Fun := ⟨[.sl (.int .u8)], [.row 61 (.int .u8)], fun x => law08_Classes_F x.1⟩
theorem law08_Classes_ev (x : Tys.I [.sl (.int .u8)]) : evFun G0 (fun f => olook f law08_Classes_C) ⟨[]⟩ (fun i => olook i law08_Classes_L) Try.f25 [.sl (.int .u8)] [.row 61 (.int .u8)] x = law08_Classes_T x.1 := by kernel_rfl
theorem law08_Classes_ok : FunOk Try.prog 25 law08_Classes_fun := evFun_ok mixed ctx0 (no_calls) Try.func25 (by kernel_rfl) _ (fun x => congrArg Tr.run (law08_Classes_ev x)) (by kernel_rfl) (by kernel_rfl)
/-! ### boustrophedon/boustrophedonlaw24.Bases -/
noncomputable def law24_Bases_L3 (out3 : List Int) (t6 : List Int) (t7 : Int) (t8 : Int) : Tr (Lap (List Int × List Int × Int × Int) (List Int)) :=
  .br (decide (t8 < t7)) (
    .bnd (idx t6 t8) fun x_1 =>
    .bnd (app 17592186044416 out3 ([IntKind.i64.wrap (x_1.tmod 2)])) fun r_2 =>
    .pure (.next (r_2, t6, t7, IntKind.i64.wrap (t8 + 1)))) (
    .pure (.done out3))
noncomputable def law24_Bases_T (ns0 : List Int) : Tr (List Int) :=
  .bnd (loopW (fun s => (law24_Bases_L3 s.1 s.2.1 s.2.2.1 s.2.2.2).run) ([], ns0, (ns0.length : Int), 0)) fun l_3 =>
  .pure l_3
noncomputable def law24_Bases_F (ns0 : List Int) : Option (List Int) := (law24_Bases_T ns0).run
def law24_Bases_L : List (Nat × LoopAnn) := [(3, { head := [.srow 3 1000003 3 true (.int .i64), .sv 6 false (.sl (.int .u8)), .sv 7 true (.int .i64), .sv 8 true (.int .i64)], xid := 0, out := [.srow 3 1000003 3 true (.int .i64)], hasRet := false, res := [] })]
noncomputable def law24_Bases_C : List (Nat × Fun) := []
noncomputable def law24_Bases_fun : Fun := ⟨[.sl (.int .u8)], [.row 3 (.int .i64)], fun x => law24_Bases_F x.1⟩
theorem law24_Bases_ev (x : Tys.I [.sl (.int .u8)]) : evFun G0 (fun f => olook f law24_Bases_C) ⟨[]⟩ (fun i => olook i law24_Bases_L) Try.f26 [.sl (.int .u8)] [.row 3 (.int .i64)] x = law24_Bases_T x.1 := by kernel_rfl
theorem law24_Bases_ok : FunOk Try.prog 26 law24_Bases_fun := evFun_ok mixed ctx0 (no_calls) Try.func26 (by kernel_rfl) _ (fun x => congrArg Tr.run (law24_Bases_ev x)) (by kernel_rfl) (by kernel_rfl)
/-! ### boustrophedon/boustrophedonlaw24.blank -/
noncomputable def law24_blank_T (c0 : Int) : Tr Bool :=
  .br (c0 == 12) (
    .pure true) (
    .br (c0 == 19) (
      .pure true) (
      .br (c0 == 20) (
        .pure true) (
        .br (c0 == 21) (
          .pure true) (
          .br (c0 == 22) (
            .pure true) (
            .br (c0 == 14) (
              .pure true) (
              .br (c0 == 15) (
                .pure true) (
                .br (c0 == 16) (
                  .pure true) (
                  .br (c0 == 17) (
                    .pure true) (
                    .br (c0 == 18) (
                      .pure true) (
                      .br (c0 == 9) (
                        .pure true) (
                        .pure false)))))))))))
noncomputable def law24_blank_F (c0 : Int) : Option Bool := (law24_blank_T c0).run
def law24_blank_L : List (Nat × LoopAnn) := []
noncomputable def law24_blank_C : List (Nat × Fun) := []
noncomputable def law24_blank_fun : Fun := ⟨[.int .u8], [.v .bool], fun x => law24_blank_F x.1⟩
theorem law24_blank_ev (x : Tys.I [.int .u8]) : evFun G0 (fun f => olook f law24_blank_C) ⟨[]⟩ (fun i => olook i law24_blank_L) Try.f35 [.int .u8] [.v .bool] x = law24_blank_T x.1 := by kernel_rfl
theorem law24_blank_ok : FunOk Try.prog 35 law24_blank_fun := evFun_ok mixed ctx0 (no_calls) Try.func35 (by kernel_rfl) _ (fun x => congrArg Tr.run (law24_blank_ev x)) (by kernel_rfl) (by kernel_rfl)
/-! ### boustrophedon/boustrophedonlaw24.back -/
noncomputable def law24_back_L4 (cs0 : List Int) (k5 : Int) : Tr (Lap (List Int × Int) (Sum Unit Bool)) :=
  .br (decide (k5 < (cs0.length : Int))) (
    .bnd (idx cs0 k5) fun x_3 =>
    .br (x_3 == 11) (
      .pure (.done (.inr true))) (
      .bnd (idx cs0 k5) fun x_4 =>
      .br (x_4 == 10) (
        .pure (.done (.inr true))) (
        .bnd (idx cs0 k5) fun x_5 =>
        .bnd (law24_blank_F x_5) fun c_6 =>
        .br (!c_6) (
          .pure (.done (.inr false))) (
          .pure (.next (cs0, IntKind.i64.wrap (k5 + 1))))))) (
    .pure (.done (.inl ())))
noncomputable def law24_back_T (cs0 : List Int) (at1 : Int) : Tr Bool :=
  .bnd (idx cs0 at1) fun x_1 =>
  .br (x_1 == 11) (
    .pure true) (
    .bnd (idx cs0 at1) fun x_2 =>
    .br (x_2 == 10) (
      .pure true) (
      .alt (loopW (fun s => (law24_back_L4 s.1 s.2).run) (cs0, at1)) (fun l_7 =>
        .pure true) (fun l_8 =>
        .pure l_8)))
noncomputable def law24_back_F (cs0 : List Int) (at1 : Int) : Option Bool := (law24_back_T cs0 at1).run
def law24_back_L : List (Nat × LoopAnn) := [(4, { head := [.sv 0 false (.sl (.int .u8)), .sv 5 false (.int .i64)], xid := 0, out := [], hasRet := true, res := [.sv 4 true .bool] })]
noncomputable def law24_back_C : List (Nat × Fun) := [(35, law24_blank_fun)]
noncomputable def law24_back_fun : Fun := ⟨[.sl (.int .u8), .int .i64], [.v .bool], fun x => law24_back_F x.1 x.2.1⟩
theorem law24_back_ev (x : Tys.I [.sl (.int .u8), .int .i64]) : evFun G0 (fun f => olook f law24_back_C) ⟨[]⟩ (fun i => olook i law24_back_L) Try.f28 [.sl (.int .u8), .int .i64] [.v .bool] x = law24_back_T x.1 x.2.1 := by kernel_rfl
theorem law24_back_ok : FunOk Try.prog 28 law24_back_fun := evFun_ok mixed ctx0 (cons_calls law24_blank_ok (no_calls)) Try.func28 (by kernel_rfl) _ (fun x => congrArg Tr.run (law24_back_ev x)) (by kernel_rfl) (by kernel_rfl)
end Go.Proofs.Ytfljkcfahhkfbab
