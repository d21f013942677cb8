/-
  The plain readings of the functions of this seat, by program; each is tied to the loaded function.
-/
import Derived.Test.YtfjhbhnelkpgdaaEvMain
import Derived.Test.YtfjhbhnelkpgdaaChecked
namespace Go.Proofs.Ytfjhbhnelkpgdaa
set_option maxRecDepth 100000
set_option linter.unusedVariables false

def G0 : Ctx := { ty := [(3, .int .i64), (4, .bool), (5, .int .u8), (22, .sl (.int .u8)), (24, .sl (.int .i64)), (26, .sl (.sl (.int .i64))), (30, .int .u16), (32, .int .u8), (35, .sl (.int .u8))], sls := [(22, ⟨5, .int .u8, 140737488355328⟩), (24, ⟨3, .int .i64, 17592186044416⟩), (26, ⟨24, .sl (.int .i64), 5864062014805⟩), (35, ⟨32, .int .u8, 140737488355328⟩)] }
theorem mixed : Try.prog.follows .mixedOrders = true := by kernel_rfl
theorem ctx0 : CtxOk Try.prog G0 := ctx_ok (by kernel_rfl)
theorem no_calls : ∀ f fa, olook f ([] : List (Nat × Fun)) = some fa → FunOk Try.prog f fa := fun _ _ h => by cases h
theorem cons_calls {k : Nat} {fb : Fun} {l : List (Nat × Fun)} (h : FunOk Try.prog k fb) (hl : ∀ f fa, olook f l = some fa → FunOk Try.prog f fa) : ∀ f fa, olook f ((k, fb) :: l) = some fa → FunOk Try.prog f fa := by
  intro f fa hf
  rw [olook_cons] at hf
  split at hf
  · rename_i e; subst e; cases hf; exact h
  · exact hl f fa hf

/-! ### boustrophedon/runs.Of -/
noncomputable def runs_Of_L4 (levels0 : List Int) (all3 : List (List Int)) (run4 : List Int) (t7 : List Int) (t8 : Int) (t9 : Int) : Tr (Lap (List Int × List (List Int) × List Int × List Int × Int × Int) (List (List Int) × List Int)) :=
  .br (decide (t9 < t8)) (
    .bnd (idx t7 t9) fun x_1 =>
    .br (x_1 == (-1)) (
      .pure (.next (levels0, all3, run4, t7, t8, IntKind.i64.wrap (t9 + 1)))) (
      .br (decide ((run4.length : Int) > 0)) (
        .bnd (idx run4 0) fun x_2 =>
        .bnd (idx levels0 x_2) fun x_3 =>
        .br (x_3 != x_1) (
          .bnd (app 5864062014805 all3 ([run4])) fun r_4 =>
          .bnd (app 17592186044416 [] ([t9])) fun r_5 =>
          .pure (.next (levels0, r_4, r_5, t7, t8, IntKind.i64.wrap (t9 + 1)))) (
          .bnd (app 17592186044416 run4 ([t9])) fun r_6 =>
          .pure (.next (levels0, all3, r_6, t7, t8, IntKind.i64.wrap (t9 + 1))))) (
        .bnd (app 17592186044416 run4 ([t9])) fun r_7 =>
        .pure (.next (levels0, all3, r_7, t7, t8, IntKind.i64.wrap (t9 + 1)))))) (
    .pure (.done (all3, run4)))
noncomputable def runs_Of_T (levels0 : List Int) : Tr (List (List Int)) :=
  .bnd (loopW (fun s => (runs_Of_L4 s.1 s.2.1 s.2.2.1 s.2.2.2.1 s.2.2.2.2.1 s.2.2.2.2.2).run) (levels0, [], [], levels0, (levels0.length : Int), 0)) fun l_8 =>
  .br (decide ((l_8.2.length : Int) > 0)) (
    .bnd (app 5864062014805 l_8.1 ([l_8.2])) fun r_9 =>
    .pure r_9) (
    .pure l_8.1)
noncomputable def runs_Of_F (levels0 : List Int) : Option (List (List Int)) := (runs_Of_T levels0).run
def runs_Of_L : List (Nat × LoopAnn) := [(4, { head := [.sv 0 false (.sl (.int .i64)), .srow 3 1000003 24 true (.sl (.int .i64)), .srow 4 1000004 3 true (.int .i64), .sv 7 false (.sl (.int .i64)), .sv 8 true (.int .i64), .sv 9 true (.int .i64)], xid := 0, out := [.srow 3 1000003 24 true (.sl (.int .i64)), .srow 4 1000004 3 true (.int .i64)], hasRet := false, res := [] })]
noncomputable def runs_Of_C : List (Nat × Fun) := []
noncomputable def runs_Of_fun : Fun := ⟨[.sl (.int .i64)], [.row 24 (.sl (.int .i64))], fun x => runs_Of_F x.1⟩
theorem runs_Of_ev (x : Tys.I [.sl (.int .i64)]) : evFun G0 (fun f => olook f runs_Of_C) ⟨[]⟩ (fun i => olook i runs_Of_L) Try.f15 [.sl (.int .i64)] [.row 24 (.sl (.int .i64))] x = runs_Of_T x.1 := by kernel_rfl
theorem runs_Of_ok : FunOk Try.prog 15 runs_Of_fun := evFun_ok mixed ctx0 (no_calls) Try.func15 (by kernel_rfl) _ (fun x => congrArg Tr.run (runs_Of_ev x)) (by kernel_rfl) (by kernel_rfl)
/-! ### boustrophedon/boustrophedonlaw12.awake -/
noncomputable def law12_awake_T : Tr Bool :=
  .bnd (runs_Of_F ([0, 0, (-1), 0, 1])) fun c_1 =>
  .br ((c_1.length : Int) == 2) (
    .bnd (idx c_1 0) fun x_2 =>
    .br ((x_2.length : Int) == 3) (
      .bnd (idx c_1 0) fun x_3 =>
      .bnd (idx x_3 2) fun x_4 =>
      .br (x_4 == 3) (
        .bnd (idx c_1 1) fun x_5 =>
        .br ((x_5.length : Int) == 1) (
          .bnd (idx c_1 1) fun x_6 =>
          .bnd (idx x_6 0) fun x_7 =>
          .pure (x_7 == 4)) (
          .pure false)) (
        .pure false)) (
      .pure false)) (
    .pure false)
noncomputable def law12_awake_F : Option Bool := (law12_awake_T).run
def law12_awake_L : List (Nat × LoopAnn) := []
noncomputable def law12_awake_C : List (Nat × Fun) := [(15, runs_Of_fun)]
noncomputable def law12_awake_fun : Fun := ⟨[], [.v .bool], fun _ => law12_awake_F⟩
theorem law12_awake_ev (x : Tys.I []) : evFun G0 (fun f => olook f law12_awake_C) ⟨[]⟩ (fun i => olook i law12_awake_L) Try.f13 [] [.v .bool] x = law12_awake_T := by kernel_rfl
theorem law12_awake_ok : FunOk Try.prog 13 law12_awake_fun := evFun_ok mixed ctx0 (cons_calls runs_Of_ok (no_calls)) Try.func13 (by kernel_rfl) _ (fun x => congrArg Tr.run (law12_awake_ev x)) (by kernel_rfl) (by kernel_rfl)
/-! ### boustrophedon/boustrophedonlaw12.Levels -/
noncomputable def law12_Levels_L3 (ns0 : List Int) (out3 : List Int) (k4 : Int) : Tr (Lap (List Int × List Int × Int) (List Int)) :=
  .br (decide (k4 < (ns0.length : Int))) (
    .bnd (idx ns0 k4) fun x_1 =>
    .br ((x_1.tmod 8) == 7) (
      .bnd (app 17592186044416 out3 ([(-1)])) fun r_2 =>
      .pure (.next (ns0, r_2, IntKind.i64.wrap (k4 + 1)))) (
      .bnd (idx ns0 k4) fun x_3 =>
      .bnd (app 17592186044416 out3 ([(IntKind.i64.wrap (IntKind.u8.wrap (x_3.tdiv 8))).tmod 6])) fun r_4 =>
      .pure (.next (ns0, r_4, IntKind.i64.wrap (k4 + 1))))) (
    .pure (.done out3))
noncomputable def law12_Levels_T (ns0 : List Int) : Tr (List Int) :=
  .bnd (loopW (fun s => (law12_Levels_L3 s.1 s.2.1 s.2.2).run) (ns0, [], 0)) fun l_5 =>
  .pure l_5
noncomputable def law12_Levels_F (ns0 : List Int) : Option (List Int) := (law12_Levels_T ns0).run
def law12_Levels_L : List (Nat × LoopAnn) := [(3, { head := [.sv 0 false (.sl (.int .u8)), .srow 3 1000003 3 true (.int .i64), .sv 4 true (.int .i64)], xid := 0, out := [.srow 3 1000003 3 true (.int .i64)], hasRet := false, res := [] })]
noncomputable def law12_Levels_C : List (Nat × Fun) := []
noncomputable def law12_Levels_fun : Fun := ⟨[.sl (.int .u8)], [.row 3 (.int .i64)], fun x => law12_Levels_F x.1⟩
theorem law12_Levels_ev (x : Tys.I [.sl (.int .u8)]) : evFun G0 (fun f => olook f law12_Levels_C) ⟨[]⟩ (fun i => olook i law12_Levels_L) Try.f14 [.sl (.int .u8)] [.row 3 (.int .i64)] x = law12_Levels_T x.1 := by kernel_rfl
theorem law12_Levels_ok : FunOk Try.prog 14 law12_Levels_fun := evFun_ok mixed ctx0 (no_calls) Try.func14 (by kernel_rfl) _ (fun x => congrArg Tr.run (law12_Levels_ev x)) (by kernel_rfl) (by kernel_rfl)
/-! ### boustrophedon/boustrophedonlaw12.RunsCut -/
noncomputable def law12_RunsCut_L14 (t3 : List Int) (t4 : Int) (t5 : Int) (t9 : Int) (t15 : List (List Int)) (t16 : Int) (t17 : Int) (t40 : List Int) (t41 : Int) (t42 : Int) : Tr (Lap (List Int × Int × Int × Int × List (List Int) × Int × Int × List Int × Int × Int) (List Int × Int × Int × Int × List (List Int) × Int × Int × List Int × Int × Int)) :=
  .br (decide (t4 < (t3.length : Int))) (
    .bnd (idx t3 t4) fun x_10 =>
    .br (x_10 == (-1)) (
      .pure (.next (t3, IntKind.i64.wrap (t4 + 1), t5, t9, t15, t16, t17, t40, t41, t42))) (
      .pure (.done (t3, t4, t5, t9, t15, t16, t17, t40, t41, t42)))) (
    .pure (.done (t3, t4, t5, t9, t15, t16, t17, t40, t41, t42)))
noncomputable def law12_RunsCut_L12 (t3 : List Int) (t4 : Int) (t5 : Int) (t15 : List (List Int)) (t16 : Int) (t17 : Int) (t40 : List Int) (t41 : Int) (t42 : Int) : Tr (Lap (List Int × Int × Int × List (List Int) × Int × Int × List Int × Int × Int) (Sum (List Int × Int × Int × List (List Int) × Int × Int) Bool)) :=
  .br (decide (t42 < t41)) (
    .bnd (idx t40 t42) fun x_9 =>
    .bnd (loopW (fun s => (law12_RunsCut_L14 s.1 s.2.1 s.2.2.1 s.2.2.2.1 s.2.2.2.2.1 s.2.2.2.2.2.1 s.2.2.2.2.2.2.1 s.2.2.2.2.2.2.2.1 s.2.2.2.2.2.2.2.2.1 s.2.2.2.2.2.2.2.2.2).run) (t3, t4, t5, x_9, t15, t16, t17, t40, t41, t42)) fun l_11 =>
    .br (l_11.2.2.2.1 != l_11.2.1) (
      .pure (.done (.inr false))) (
      .bnd (idx l_11.1 l_11.2.2.2.1) fun x_12 =>
      .br (x_12 != l_11.2.2.1) (
        .pure (.done (.inr false))) (
        .pure (.next (l_11.1, IntKind.i64.wrap (l_11.2.1 + 1), l_11.2.2.1, l_11.2.2.2.2.1, l_11.2.2.2.2.2.1, l_11.2.2.2.2.2.2.1, l_11.2.2.2.2.2.2.2.1, l_11.2.2.2.2.2.2.2.2.1, IntKind.i64.wrap (l_11.2.2.2.2.2.2.2.2.2 + 1)))))) (
    .pure (.done (.inl (t3, t4, t5, t15, t16, t17))))
noncomputable def law12_RunsCut_L6 (t3 : List Int) (t4 : Int) (t5 : Int) (t15 : List (List Int)) (t16 : Int) (t17 : Int) : Tr (Lap (List Int × Int × Int × List (List Int) × Int × Int) (Sum (List Int × Int) Bool)) :=
  .br (decide (t17 < t16)) (
    .bnd (idx t15 t17) fun x_4 =>
    .br ((x_4.length : Int) == 0) (
      .pure (.done (.inr false))) (
      .bnd (idx x_4 0) fun x_5 =>
      .bnd (idx t3 x_5) fun x_6 =>
      .br (x_6 == t5) (
        .pure (.done (.inr false))) (
        .bnd (idx x_4 0) fun x_7 =>
        .bnd (idx t3 x_7) fun x_8 =>
        .alt (loopW (fun s => (law12_RunsCut_L12 s.1 s.2.1 s.2.2.1 s.2.2.2.1 s.2.2.2.2.1 s.2.2.2.2.2.1 s.2.2.2.2.2.2.1 s.2.2.2.2.2.2.2.1 s.2.2.2.2.2.2.2.2).run) (t3, t4, x_8, t15, t16, t17, x_4, (x_4.length : Int), 0)) (fun l_13 =>
          .pure (.next (l_13.1, l_13.2.1, l_13.2.2.1, l_13.2.2.2.1, l_13.2.2.2.2.1, IntKind.i64.wrap (l_13.2.2.2.2.2 + 1)))) (fun l_14 =>
          .pure (.done (.inr l_14)))))) (
    .pure (.done (.inl (t3, t4))))
noncomputable def law12_RunsCut_L21 (t3 : List Int) (t4 : Int) : Tr (Lap (List Int × Int) (List Int × Int)) :=
  .br (decide (t4 < (t3.length : Int))) (
    .bnd (idx t3 t4) fun x_16 =>
    .br (x_16 == (-1)) (
      .pure (.next (t3, IntKind.i64.wrap (t4 + 1)))) (
      .pure (.done (t3, t4)))) (
    .pure (.done (t3, t4)))
noncomputable def law12_RunsCut_T (t0 : List Int) : Tr Bool :=
  .bnd law12_awake_F fun c_1 =>
  .br (!c_1) (
    .pure false) (
    .bnd (law12_Levels_F t0) fun c_2 =>
    .bnd (runs_Of_F c_2) fun c_3 =>
    .alt (loopW (fun s => (law12_RunsCut_L6 s.1 s.2.1 s.2.2.1 s.2.2.2.1 s.2.2.2.2.1 s.2.2.2.2.2).run) (c_2, 0, (-5), c_3, (c_3.length : Int), 0)) (fun l_15 =>
      .bnd (loopW (fun s => (law12_RunsCut_L21 s.1 s.2).run) (l_15.1, l_15.2)) fun l_17 =>
      .pure (l_17.2 == (l_17.1.length : Int))) (fun l_18 =>
      .pure l_18))
noncomputable def law12_RunsCut_F (t0 : List Int) : Option Bool := (law12_RunsCut_T t0).run
def law12_RunsCut_L : List (Nat × LoopAnn) := [(14, { head := [.srow 3 1000003 3 true (.int .i64), .sv 4 true (.int .i64), .sv 5 true (.int .i64), .sv 9 true (.int .i64), .srow 15 1000015 24 true (.sl (.int .i64)), .sv 16 true (.int .i64), .sv 17 true (.int .i64), .sv 40 true (.sl (.int .i64)), .sv 41 true (.int .i64), .sv 42 true (.int .i64)], xid := 4, out := [.srow 3 1000003 3 true (.int .i64), .sv 4 true (.int .i64), .sv 5 true (.int .i64), .sv 9 true (.int .i64), .srow 15 1000015 24 true (.sl (.int .i64)), .sv 16 true (.int .i64), .sv 17 true (.int .i64), .sv 40 true (.sl (.int .i64)), .sv 41 true (.int .i64), .sv 42 true (.int .i64)], hasRet := false, res := [] }), (12, { head := [.srow 3 1000003 3 true (.int .i64), .sv 4 true (.int .i64), .sv 5 true (.int .i64), .srow 15 1000015 24 true (.sl (.int .i64)), .sv 16 true (.int .i64), .sv 17 true (.int .i64), .sv 40 true (.sl (.int .i64)), .sv 41 true (.int .i64), .sv 42 true (.int .i64)], xid := 2, out := [.srow 3 1000003 3 true (.int .i64), .sv 4 true (.int .i64), .sv 5 true (.int .i64), .srow 15 1000015 24 true (.sl (.int .i64)), .sv 16 true (.int .i64), .sv 17 true (.int .i64)], hasRet := true, res := [.sv 2 true .bool] }), (6, { head := [.srow 3 1000003 3 true (.int .i64), .sv 4 true (.int .i64), .sv 5 true (.int .i64), .srow 15 1000015 24 true (.sl (.int .i64)), .sv 16 true (.int .i64), .sv 17 true (.int .i64)], xid := 0, out := [.srow 3 1000003 3 true (.int .i64), .sv 4 true (.int .i64)], hasRet := true, res := [.sv 2 true .bool] }), (21, { head := [.srow 3 1000003 3 true (.int .i64), .sv 4 true (.int .i64)], xid := 6, out := [.srow 3 1000003 3 true (.int .i64), .sv 4 true (.int .i64)], hasRet := false, res := [] })]
noncomputable def law12_RunsCut_C : List (Nat × Fun) := [(13, law12_awake_fun), (14, law12_Levels_fun), (15, runs_Of_fun)]
noncomputable def law12_RunsCut_fun : Fun := ⟨[.sl (.int .u8)], [.v .bool], fun x => law12_RunsCut_F x.1⟩
theorem law12_RunsCut_ev (x : Tys.I [.sl (.int .u8)]) : evFun G0 (fun f => olook f law12_RunsCut_C) ⟨[]⟩ (fun i => olook i law12_RunsCut_L) Try.f3 [.sl (.int .u8)] [.v .bool] x = law12_RunsCut_T x.1 := by kernel_rfl
theorem law12_RunsCut_ok : FunOk Try.prog 3 law12_RunsCut_fun := evFun_ok mixed ctx0 (cons_calls law12_awake_ok (cons_calls law12_Levels_ok (cons_calls runs_Of_ok (no_calls)))) Try.func3 (by kernel_rfl) _ (fun x => congrArg Tr.run (law12_RunsCut_ev x)) (by kernel_rfl) (by kernel_rfl)
/-! ### boustrophedon/boustrophedonlaw12.RunsEven -/
noncomputable def law12_RunsEven_L7 (t1 : Int) (t5 : List Int) (t6 : List Int) (t7 : List Int) (t8 : Int) : Tr (Lap (Int × List Int × List Int × List Int × Int) (List Int × List Int × List Int)) :=
  .br (decide (t8 < (t5.length : Int))) (
    .bnd (idx t5 t8) fun x_5 =>
    .bnd (idx t6 t8) fun x_6 =>
    .bnd (idx t5 t8) fun x_7 =>
    .br (x_7 != (-1)) (
      .bnd (idx t5 t8) fun x_8 =>
      .bnd (idx (t6.set (Int.toNat t8) x_5) t8) fun x_9 =>
      .bnd (idx t7 t8) fun x_10 =>
      .pure (.next (t1, t5, (t6.set (Int.toNat t8) x_5).set (Int.toNat t8) (IntKind.i64.wrap (x_8 + (IntKind.i64.wrap t1))), t7.set (Int.toNat t8) 3, IntKind.i64.wrap (t8 + 1)))) (
      .bnd (idx t7 t8) fun x_11 =>
      .pure (.next (t1, t5, t6.set (Int.toNat t8) x_5, t7.set (Int.toNat t8) 3, IntKind.i64.wrap (t8 + 1))))) (
    .pure (.done (t5, t6, t7)))
noncomputable def law12_RunsEven_L17 (t9 : List (List Int)) (t10 : List (List Int)) (t12 : Int) : Tr (Lap (List (List Int) × List (List Int) × Int) (Sum Unit Bool)) :=
  .br (decide (t12 < (t9.length : Int))) (
    .bnd (idx t9 t12) fun x_17 =>
    .bnd (idx t10 t12) fun x_18 =>
    .br ((x_17.length : Int) != (x_18.length : Int)) (
      .pure (.done (.inr false))) (
      .bnd (idx t9 t12) fun x_19 =>
      .bnd (idx x_19 0) fun x_20 =>
      .bnd (idx t10 t12) fun x_21 =>
      .bnd (idx x_21 0) fun x_22 =>
      .br (x_20 != x_22) (
        .pure (.done (.inr false))) (
        .pure (.next (t9, t10, IntKind.i64.wrap (t12 + 1)))))) (
    .pure (.done (.inl ())))
noncomputable def law12_RunsEven_T (t0 : List Int) (t1 : Int) : Tr Bool :=
  .bnd law12_awake_F fun c_1 =>
  .br (!c_1) (
    .pure false) (
    .bnd (law12_Levels_F t0) fun c_2 =>
    .bnd (mk 17592186044416 0 (c_2.length : Int)) fun r_3 =>
    .bnd (mk 17592186044416 0 (c_2.length : Int)) fun r_4 =>
    .bnd (loopW (fun s => (law12_RunsEven_L7 s.1 s.2.1 s.2.2.1 s.2.2.2.1 s.2.2.2.2).run) (t1, c_2, r_3, r_4, 0)) fun l_12 =>
    .bnd (runs_Of_F l_12.1) fun c_13 =>
    .bnd (runs_Of_F l_12.2.1) fun c_14 =>
    .bnd (runs_Of_F l_12.2.2) fun c_15 =>
    .br ((c_13.length : Int) != (c_14.length : Int)) (
      .pure false) (
      .br (decide ((l_12.1.length : Int) > 0)) (
        .br ((c_15.length : Int) != 1) (
          .pure false) (
          .bnd (idx c_15 0) fun x_16 =>
          .br ((x_16.length : Int) != (l_12.1.length : Int)) (
            .pure false) (
            .alt (loopW (fun s => (law12_RunsEven_L17 s.1 s.2.1 s.2.2).run) (c_13, c_14, 0)) (fun l_23 =>
              .pure true) (fun l_24 =>
              .pure l_24)))) (
        .alt (loopW (fun s => (law12_RunsEven_L17 s.1 s.2.1 s.2.2).run) (c_13, c_14, 0)) (fun l_25 =>
          .pure true) (fun l_26 =>
          .pure l_26))))
noncomputable def law12_RunsEven_F (t0 : List Int) (t1 : Int) : Option Bool := (law12_RunsEven_T t0 t1).run
def law12_RunsEven_L : List (Nat × LoopAnn) := [(7, { head := [.sv 1 false (.int .u8), .srow 5 1000005 3 true (.int .i64), .srow 6 1000006 3 true (.int .i64), .srow 7 1000007 3 true (.int .i64), .sv 8 true (.int .i64)], xid := 0, out := [.srow 5 1000005 3 true (.int .i64), .srow 6 1000006 3 true (.int .i64), .srow 7 1000007 3 true (.int .i64)], hasRet := false, res := [] }), (17, { head := [.srow 9 1000009 24 true (.sl (.int .i64)), .srow 10 1000010 24 true (.sl (.int .i64)), .sv 12 true (.int .i64)], xid := 2, out := [], hasRet := true, res := [.sv 4 true .bool] })]
noncomputable def law12_RunsEven_C : List (Nat × Fun) := [(13, law12_awake_fun), (14, law12_Levels_fun), (15, runs_Of_fun)]
noncomputable def law12_RunsEven_fun : Fun := ⟨[.sl (.int .u8), .int .u8], [.v .bool], fun x => law12_RunsEven_F x.1 x.2.1⟩
theorem law12_RunsEven_ev (x : Tys.I [.sl (.int .u8), .int .u8]) : evFun G0 (fun f => olook f law12_RunsEven_C) ⟨[]⟩ (fun i => olook i law12_RunsEven_L) Try.f4 [.sl (.int .u8), .int .u8] [.v .bool] x = law12_RunsEven_T x.1 x.2.1 := by kernel_rfl
theorem law12_RunsEven_ok : FunOk Try.prog 4 law12_RunsEven_fun := evFun_ok mixed ctx0 (cons_calls law12_awake_ok (cons_calls law12_Levels_ok (cons_calls runs_Of_ok (no_calls)))) Try.func4 (by kernel_rfl) _ (fun x => congrArg Tr.run (law12_RunsEven_ev x)) (by kernel_rfl) (by kernel_rfl)
/-! ### boustrophedon/boustrophedonlaw12.RunsCount -/
noncomputable def law12_RunsCount_L5 (ns0 : List Int) (last3 : Int) (n4 : Int) (t10 : List Int) (t11 : Int) (t12 : Int) : Tr (Lap (List Int × Int × Int × List Int × Int × Int) (List Int × Int)) :=
  .br (decide (t12 < t11)) (
    .bnd (idx t10 t12) fun x_3 =>
    .br (x_3 == (-1)) (
      .pure (.next (ns0, last3, n4, t10, t11, IntKind.i64.wrap (t12 + 1)))) (
      .br (x_3 != last3) (
        .pure (.next (ns0, x_3, IntKind.i64.wrap (n4 + 1), t10, t11, IntKind.i64.wrap (t12 + 1)))) (
        .pure (.next (ns0, x_3, n4, t10, t11, IntKind.i64.wrap (t12 + 1)))))) (
    .pure (.done (ns0, n4)))
noncomputable def law12_RunsCount_T (ns0 : List Int) : Tr Bool :=
  .bnd law12_awake_F fun c_1 =>
  .br (!c_1) (
    .pure false) (
    .bnd (law12_Levels_F ns0) fun c_2 =>
    .bnd (loopW (fun s => (law12_RunsCount_L5 s.1 s.2.1 s.2.2.1 s.2.2.2.1 s.2.2.2.2.1 s.2.2.2.2.2).run) (ns0, (-5), 0, c_2, (c_2.length : Int), 0)) fun l_4 =>
    .bnd (law12_Levels_F l_4.1) fun c_5 =>
    .bnd (runs_Of_F c_5) fun c_6 =>
    .pure ((c_6.length : Int) == l_4.2))
noncomputable def law12_RunsCount_F (ns0 : List Int) : Option Bool := (law12_RunsCount_T ns0).run
def law12_RunsCount_L : List (Nat × LoopAnn) := [(5, { head := [.sv 0 false (.sl (.int .u8)), .sv 3 true (.int .i64), .sv 4 true (.int .i64), .srow 10 1000010 3 true (.int .i64), .sv 11 true (.int .i64), .sv 12 true (.int .i64)], xid := 0, out := [.sv 0 false (.sl (.int .u8)), .sv 4 true (.int .i64)], hasRet := false, res := [] })]
noncomputable def law12_RunsCount_C : List (Nat × Fun) := [(13, law12_awake_fun), (14, law12_Levels_fun), (15, runs_Of_fun)]
noncomputable def law12_RunsCount_fun : Fun := ⟨[.sl (.int .u8)], [.v .bool], fun x => law12_RunsCount_F x.1⟩
theorem law12_RunsCount_ev (x : Tys.I [.sl (.int .u8)]) : evFun G0 (fun f => olook f law12_RunsCount_C) ⟨[]⟩ (fun i => olook i law12_RunsCount_L) Try.f5 [.sl (.int .u8)] [.v .bool] x = law12_RunsCount_T x.1 := by kernel_rfl
theorem law12_RunsCount_ok : FunOk Try.prog 5 law12_RunsCount_fun := evFun_ok mixed ctx0 (cons_calls law12_awake_ok (cons_calls law12_Levels_ok (cons_calls runs_Of_ok (no_calls)))) Try.func5 (by kernel_rfl) _ (fun x => congrArg Tr.run (law12_RunsCount_ev x)) (by kernel_rfl) (by kernel_rfl)
/-! ### boustrophedon/implicit.aboveEven -/
noncomputable def implicit_aboveEven_T (c0 : Int) : Tr Int :=
  .br (c0 == 1) (
    .pure 1) (
    .br (c0 == 6) (
      .pure 2) (
      .br (c0 == 3) (
        .pure 2) (
        .pure 0)))
noncomputable def implicit_aboveEven_F (c0 : Int) : Option Int := (implicit_aboveEven_T c0).run
def implicit_aboveEven_L : List (Nat × LoopAnn) := []
noncomputable def implicit_aboveEven_C : List (Nat × Fun) := []
noncomputable def implicit_aboveEven_fun : Fun := ⟨[.int .u8], [.v (.int .i64)], fun x => implicit_aboveEven_F x.1⟩
theorem implicit_aboveEven_ev (x : Tys.I [.int .u8]) : evFun G0 (fun f => olook f implicit_aboveEven_C) ⟨[]⟩ (fun i => olook i implicit_aboveEven_L) Try.f23 [.int .u8] [.v (.int .i64)] x = implicit_aboveEven_T x.1 := by kernel_rfl
theorem implicit_aboveEven_ok : FunOk Try.prog 23 implicit_aboveEven_fun := evFun_ok mixed ctx0 (no_calls) Try.func23 (by kernel_rfl) _ (fun x => congrArg Tr.run (implicit_aboveEven_ev x)) (by kernel_rfl) (by kernel_rfl)
/-! ### boustrophedon/implicit.aboveOdd -/
noncomputable def implicit_aboveOdd_T (c0 : Int) : Tr Int :=
  .br (c0 == 0) (
    .pure 1) (
    .br (c0 == 6) (
      .pure 1) (
      .br (c0 == 3) (
        .pure 1) (
        .pure 0)))
noncomputable def implicit_aboveOdd_F (c0 : Int) : Option Int := (implicit_aboveOdd_T c0).run
def implicit_aboveOdd_L : List (Nat × LoopAnn) := []
noncomputable def implicit_aboveOdd_C : List (Nat × Fun) := []
noncomputable def implicit_aboveOdd_fun : Fun := ⟨[.int .u8], [.v (.int .i64)], fun x => implicit_aboveOdd_F x.1⟩
theorem implicit_aboveOdd_ev (x : Tys.I [.int .u8]) : evFun G0 (fun f => olook f implicit_aboveOdd_C) ⟨[]⟩ (fun i => olook i implicit_aboveOdd_L) Try.f24 [.int .u8] [.v (.int .i64)] x = implicit_aboveOdd_T x.1 := by kernel_rfl
theorem implicit_aboveOdd_ok : FunOk Try.prog 24 implicit_aboveOdd_fun := evFun_ok mixed ctx0 (no_calls) Try.func24 (by kernel_rfl) _ (fun x => congrArg Tr.run (implicit_aboveOdd_ev x)) (by kernel_rfl) (by kernel_rfl)
/-! ### boustrophedon/implicit.Level -/
noncomputable def implicit_Level_T (c0 : Int) (level1 : Int) : Tr Int :=
  .br ((level1.tmod 2) == 0) (
    .bnd (implicit_aboveEven_F c0) fun c_1 =>
    .pure (IntKind.i64.wrap (level1 + c_1))) (
    .bnd (implicit_aboveOdd_F c0) fun c_2 =>
    .pure (IntKind.i64.wrap (level1 + c_2)))
noncomputable def implicit_Level_F (c0 : Int) (level1 : Int) : Option Int := (implicit_Level_T c0 level1).run
def implicit_Level_L : List (Nat × LoopAnn) := []
noncomputable def implicit_Level_C : List (Nat × Fun) := [(23, implicit_aboveEven_fun), (24, implicit_aboveOdd_fun)]
noncomputable def implicit_Level_fun : Fun := ⟨[.int .u8, .int .i64], [.v (.int .i64)], fun x => implicit_Level_F x.1 x.2.1⟩
theorem implicit_Level_ev (x : Tys.I [.int .u8, .int .i64]) : evFun G0 (fun f => olook f implicit_Level_C) ⟨[]⟩ (fun i => olook i implicit_Level_L) Try.f17 [.int .u8, .int .i64] [.v (.int .i64)] x = implicit_Level_T x.1 x.2.1 := by kernel_rfl
theorem implicit_Level_ok : FunOk Try.prog 17 implicit_Level_fun := evFun_ok mixed ctx0 (cons_calls implicit_aboveEven_ok (cons_calls implicit_aboveOdd_ok (no_calls))) Try.func17 (by kernel_rfl) _ (fun x => congrArg Tr.run (implicit_Level_ev x)) (by kernel_rfl) (by kernel_rfl)
/-! ### boustrophedon/boustrophedonlaw17.awake -/
noncomputable def law17_awake_T : Tr Bool :=
  .bnd (implicit_Level_F 1 0) fun c_1 =>
  .br (c_1 == 1) (
    .bnd (implicit_Level_F 3 0) fun c_2 =>
    .br (c_2 == 2) (
      .bnd (implicit_Level_F 3 1) fun c_3 =>
      .br (c_3 == 2) (
        .bnd (implicit_Level_F 0 1) fun c_4 =>
        .br (c_4 == 2) (
          .bnd (implicit_Level_F 1 1) fun c_5 =>
          .pure (c_5 == 1)) (
          .pure false)) (
        .pure false)) (
      .pure false)) (
    .pure false)
noncomputable def law17_awake_F : Option Bool := (law17_awake_T).run
def law17_awake_L : List (Nat × LoopAnn) := []
noncomputable def law17_awake_C : List (Nat × Fun) := [(17, implicit_Level_fun)]
noncomputable def law17_awake_fun : Fun := ⟨[], [.v .bool], fun _ => law17_awake_F⟩
theorem law17_awake_ev (x : Tys.I []) : evFun G0 (fun f => olook f law17_awake_C) ⟨[]⟩ (fun i => olook i law17_awake_L) Try.f16 [] [.v .bool] x = law17_awake_T := by kernel_rfl
theorem law17_awake_ok : FunOk Try.prog 16 law17_awake_fun := evFun_ok mixed ctx0 (cons_calls implicit_Level_ok (no_calls)) Try.func16 (by kernel_rfl) _ (fun x => congrArg Tr.run (law17_awake_ev x)) (by kernel_rfl) (by kernel_rfl)
/-! ### boustrophedon/boustrophedonref14.Implicit -/
noncomputable def ref14_Implicit_T (c0 : Int) (level1 : Int) : Tr Int :=
  .br ((level1.tmod 2) == 0) (
    .br (c0 == 1) (
      .pure (IntKind.i64.wrap (level1 + 1))) (
      .br (c0 == 3) (
        .pure (IntKind.i64.wrap (level1 + 2))) (
        .br (c0 == 6) (
          .pure (IntKind.i64.wrap (level1 + 2))) (
          .pure level1)))) (
    .br (c0 == 0) (
      .pure (IntKind.i64.wrap (level1 + 1))) (
      .br (c0 == 3) (
        .pure (IntKind.i64.wrap (level1 + 1))) (
        .br (c0 == 6) (
          .pure (IntKind.i64.wrap (level1 + 1))) (
          .pure level1))))
noncomputable def ref14_Implicit_F (c0 : Int) (level1 : Int) : Option Int := (ref14_Implicit_T c0 level1).run
def ref14_Implicit_L : List (Nat × LoopAnn) := []
noncomputable def ref14_Implicit_C : List (Nat × Fun) := []
noncomputable def ref14_Implicit_fun : Fun := ⟨[.int .i64, .int .i64], [.v (.int .i64)], fun x => ref14_Implicit_F x.1 x.2.1⟩
theorem ref14_Implicit_ev (x : Tys.I [.int .i64, .int .i64]) : evFun G0 (fun f => olook f ref14_Implicit_C) ⟨[]⟩ (fun i => olook i ref14_Implicit_L) Try.f18 [.int .i64, .int .i64] [.v (.int .i64)] x = ref14_Implicit_T x.1 x.2.1 := by kernel_rfl
theorem ref14_Implicit_ok : FunOk Try.prog 18 ref14_Implicit_fun := evFun_ok mixed ctx0 (no_calls) Try.func18 (by kernel_rfl) _ (fun x => congrArg Tr.run (ref14_Implicit_ev x)) (by kernel_rfl) (by kernel_rfl)
/-! ### boustrophedon/boustrophedonlaw17.ImplicitLevel -/
noncomputable def law17_ImplicitLevel_T (c0 : Int) (level1 : Int) : Tr Bool :=
  .bnd law17_awake_F fun c_1 =>
  .br (!c_1) (
    .pure false) (
    .bnd (implicit_Level_F c0 (IntKind.i64.wrap level1)) fun c_2 =>
    .bnd (ref14_Implicit_F (IntKind.i64.wrap c0) (IntKind.i64.wrap level1)) fun c_3 =>
    .pure (c_2 == c_3))
noncomputable def law17_ImplicitLevel_F (c0 : Int) (level1 : Int) : Option Bool := (law17_ImplicitLevel_T c0 level1).run
def law17_ImplicitLevel_L : List (Nat × LoopAnn) := []
noncomputable def law17_ImplicitLevel_C : List (Nat × Fun) := [(16, law17_awake_fun), (17, implicit_Level_fun), (18, ref14_Implicit_fun)]
noncomputable def law17_ImplicitLevel_fun : Fun := ⟨[.int .u8, .int .u16], [.v .bool], fun x => law17_ImplicitLevel_F x.1 x.2.1⟩
theorem law17_ImplicitLevel_ev (x : Tys.I [.int .u8, .int .u16]) : evFun G0 (fun f => olook f law17_ImplicitLevel_C) ⟨[]⟩ (fun i => olook i law17_ImplicitLevel_L) Try.f6 [.int .u8, .int .u16] [.v .bool] x = law17_ImplicitLevel_T x.1 x.2.1 := by kernel_rfl
theorem law17_ImplicitLevel_ok : FunOk Try.prog 6 law17_ImplicitLevel_fun := evFun_ok mixed ctx0 (cons_calls law17_awake_ok (cons_calls implicit_Level_ok (cons_calls ref14_Implicit_ok (no_calls)))) Try.func6 (by kernel_rfl) _ (fun x => congrArg Tr.run (law17_ImplicitLevel_ev x)) (by kernel_rfl) (by kernel_rfl)
/-! ### boustrophedon/boustrophedonlaw17.ImplicitSides -/
noncomputable def law17_ImplicitSides_L5 (c0 : Int) (l5 : Int) (t13 : List Int) (t14 : Int) (t15 : Int) : Tr (Lap (Int × Int × List Int × Int × Int) (Sum (Int × Int) Bool)) :=
  .br (decide (t15 < t14)) (
    .bnd (idx t13 t15) fun x_2 =>
    .bnd (implicit_Level_F x_2 l5) fun c_3 =>
    .br ((c_3.tmod 2) != 0) (
      .pure (.done (.inr false))) (
      .pure (.next (c0, l5, t13, t14, IntKind.i64.wrap (t15 + 1))))) (
    .pure (.done (.inl (c0, l5))))
noncomputable def law17_ImplicitSides_T (c0 : Int) (level1 : Int) : Tr Bool :=
  .bnd law17_awake_F fun c_1 =>
  .br (!c_1) (
    .pure false) (
    .alt (loopW (fun s => (law17_ImplicitSides_L5 s.1 s.2.1 s.2.2.1 s.2.2.2.1 s.2.2.2.2).run) (c0, IntKind.i64.wrap level1, [0, 3, 6], (([0, 3, 6] : List Int).length : Int), 0)) (fun l_4 =>
      .bnd (implicit_Level_F l_4.1 l_4.2) fun c_5 =>
      .bnd (implicit_Level_F 1 l_4.2) fun c_6 =>
      .br ((c_6.tmod 2) == 1) (
        .br (decide (c_5 ≥ l_4.2)) (
          .pure (decide (c_5 ≤ (IntKind.i64.wrap (l_4.2 + 2))))) (
          .pure false)) (
        .pure false)) (fun l_7 =>
      .pure l_7))
noncomputable def law17_ImplicitSides_F (c0 : Int) (level1 : Int) : Option Bool := (law17_ImplicitSides_T c0 level1).run
def law17_ImplicitSides_L : List (Nat × LoopAnn) := [(5, { head := [.sv 0 false (.int .u8), .sv 5 true (.int .i64), .srow 13 1000013 32 true (.int .u8), .sv 14 true (.int .i64), .sv 15 true (.int .i64)], xid := 0, out := [.sv 0 false (.int .u8), .sv 5 true (.int .i64)], hasRet := true, res := [.sv 4 true .bool] })]
noncomputable def law17_ImplicitSides_C : List (Nat × Fun) := [(16, law17_awake_fun), (17, implicit_Level_fun)]
noncomputable def law17_ImplicitSides_fun : Fun := ⟨[.int .u8, .int .u16], [.v .bool], fun x => law17_ImplicitSides_F x.1 x.2.1⟩
theorem law17_ImplicitSides_ev (x : Tys.I [.int .u8, .int .u16]) : evFun G0 (fun f => olook f law17_ImplicitSides_C) ⟨[]⟩ (fun i => olook i law17_ImplicitSides_L) Try.f7 [.int .u8, .int .u16] [.v .bool] x = law17_ImplicitSides_T x.1 x.2.1 := by kernel_rfl
theorem law17_ImplicitSides_ok : FunOk Try.prog 7 law17_ImplicitSides_fun := evFun_ok mixed ctx0 (cons_calls law17_awake_ok (cons_calls implicit_Level_ok (no_calls))) Try.func7 (by kernel_rfl) _ (fun x => congrArg Tr.run (law17_ImplicitSides_ev x)) (by kernel_rfl) (by kernel_rfl)
/-! ### boustrophedon/boustrophedonlaw17.ImplicitTwo -/
noncomputable def law17_ImplicitTwo_T (c0 : Int) (level1 : Int) : Tr Bool :=
  .bnd law17_awake_F fun c_1 =>
  .br (!c_1) (
    .pure false) (
    .br (decide (c0 > 6)) (
      .bnd (implicit_Level_F c0 (IntKind.i64.wrap ((IntKind.i64.wrap level1) + 2))) fun c_2 =>
      .bnd (implicit_Level_F c0 (IntKind.i64.wrap level1)) fun c_3 =>
      .br (c_2 == (IntKind.i64.wrap (c_3 + 2))) (
        .bnd (implicit_Level_F c0 (IntKind.i64.wrap level1)) fun c_4 =>
        .pure (c_4 == (IntKind.i64.wrap level1))) (
        .pure false)) (
      .br (c0 == 2) (
        .bnd (implicit_Level_F c0 (IntKind.i64.wrap ((IntKind.i64.wrap level1) + 2))) fun c_5 =>
        .bnd (implicit_Level_F c0 (IntKind.i64.wrap level1)) fun c_6 =>
        .br (c_5 == (IntKind.i64.wrap (c_6 + 2))) (
          .bnd (implicit_Level_F c0 (IntKind.i64.wrap level1)) fun c_7 =>
          .pure (c_7 == (IntKind.i64.wrap level1))) (
          .pure false)) (
        .br (c0 == 4) (
          .bnd (implicit_Level_F c0 (IntKind.i64.wrap ((IntKind.i64.wrap level1) + 2))) fun c_8 =>
          .bnd (implicit_Level_F c0 (IntKind.i64.wrap level1)) fun c_9 =>
          .br (c_8 == (IntKind.i64.wrap (c_9 + 2))) (
            .bnd (implicit_Level_F c0 (IntKind.i64.wrap level1)) fun c_10 =>
            .pure (c_10 == (IntKind.i64.wrap level1))) (
            .pure false)) (
          .bnd (implicit_Level_F c0 (IntKind.i64.wrap ((IntKind.i64.wrap level1) + 2))) fun c_11 =>
          .bnd (implicit_Level_F c0 (IntKind.i64.wrap level1)) fun c_12 =>
          .br (c_11 == (IntKind.i64.wrap (c_12 + 2))) (
            .br (!(c0 == 5)) (
              .pure true) (
              .bnd (implicit_Level_F c0 (IntKind.i64.wrap level1)) fun c_13 =>
              .pure (c_13 == (IntKind.i64.wrap level1)))) (
            .pure false)))))
noncomputable def law17_ImplicitTwo_F (c0 : Int) (level1 : Int) : Option Bool := (law17_ImplicitTwo_T c0 level1).run
def law17_ImplicitTwo_L : List (Nat × LoopAnn) := []
noncomputable def law17_ImplicitTwo_C : List (Nat × Fun) := [(16, law17_awake_fun), (17, implicit_Level_fun)]
noncomputable def law17_ImplicitTwo_fun : Fun := ⟨[.int .u8, .int .u16], [.v .bool], fun x => law17_ImplicitTwo_F x.1 x.2.1⟩
theorem law17_ImplicitTwo_ev (x : Tys.I [.int .u8, .int .u16]) : evFun G0 (fun f => olook f law17_ImplicitTwo_C) ⟨[]⟩ (fun i => olook i law17_ImplicitTwo_L) Try.f8 [.int .u8, .int .u16] [.v .bool] x = law17_ImplicitTwo_T x.1 x.2.1 := by kernel_rfl
theorem law17_ImplicitTwo_ok : FunOk Try.prog 8 law17_ImplicitTwo_fun := evFun_ok mixed ctx0 (cons_calls law17_awake_ok (cons_calls implicit_Level_ok (no_calls))) Try.func8 (by kernel_rfl) _ (fun x => congrArg Tr.run (law17_ImplicitTwo_ev x)) (by kernel_rfl) (by kernel_rfl)
/-! ### boustrophedon/cells.Starts -/
noncomputable def cells_Starts_L4 (starts4 : List Int) (sum5 : Int) (t11 : List Int) (t12 : Int) (t13 : Int) : Tr (Lap (List Int × Int × List Int × Int × Int) (List Int × Int)) :=
  .br (decide (t13 < t12)) (
    .bnd (idx t11 t13) fun x_2 =>
    .bnd (idx starts4 t13) fun x_3 =>
    .pure (.next (starts4.set (Int.toNat t13) sum5, IntKind.i64.wrap (sum5 + x_2), t11, t12, IntKind.i64.wrap (t13 + 1)))) (
    .pure (.done (starts4, sum5)))
noncomputable def cells_Starts_T (widths0 : List Int) : Tr (List Int × Int) :=
  .bnd (mk 17592186044416 0 (widths0.length : Int)) fun r_1 =>
  .bnd (loopW (fun s => (cells_Starts_L4 s.1 s.2.1 s.2.2.1 s.2.2.2.1 s.2.2.2.2).run) (r_1, 0, widths0, (widths0.length : Int), 0)) fun l_4 =>
  .pure (l_4.1, l_4.2)
noncomputable def cells_Starts_F (widths0 : List Int) : Option (List Int × Int) := (cells_Starts_T widths0).run
def cells_Starts_L : List (Nat × LoopAnn) := [(4, { head := [.srow 4 1000004 3 true (.int .i64), .sv 5 true (.int .i64), .sv 11 false (.sl (.int .i64)), .sv 12 true (.int .i64), .sv 13 true (.int .i64)], xid := 0, out := [.srow 4 1000004 3 true (.int .i64), .sv 5 true (.int .i64)], hasRet := false, res := [] })]
noncomputable def cells_Starts_C : List (Nat × Fun) := []
noncomputable def cells_Starts_fun : Fun := ⟨[.sl (.int .i64)], [.row 3 (.int .i64), .v (.int .i64)], fun x => cells_Starts_F x.1⟩
theorem cells_Starts_ev (x : Tys.I [.sl (.int .i64)]) : evFun G0 (fun f => olook f cells_Starts_C) ⟨[]⟩ (fun i => olook i cells_Starts_L) Try.f20 [.sl (.int .i64)] [.row 3 (.int .i64), .v (.int .i64)] x = cells_Starts_T x.1 := by kernel_rfl
theorem cells_Starts_ok : FunOk Try.prog 20 cells_Starts_fun := evFun_ok mixed ctx0 (no_calls) Try.func20 (by kernel_rfl) _ (fun x => congrArg Tr.run (cells_Starts_ev x)) (by kernel_rfl) (by kernel_rfl)
/-! ### boustrophedon/cells.Hit -/
noncomputable def cells_Hit_L4 (last6 : Int) (found7 : Bool) (left8 : Int) (t13 : List Int) (t14 : Int) (t15 : Int) : Tr (Lap (Int × Bool × Int × List Int × Int × Int) (Sum (Int × Bool) (Int × Bool))) :=
  .br (decide (t15 < t14)) (
    .bnd (idx t13 t15) fun x_1 =>
    .br (decide (x_1 ≤ 0)) (
      .pure (.next (last6, found7, left8, t13, t14, IntKind.i64.wrap (t15 + 1)))) (
      .br (decide (left8 < x_1)) (
        .pure (.done (.inr (t15, true)))) (
        .pure (.next (t15, true, IntKind.i64.wrap (left8 - x_1), t13, t14, IntKind.i64.wrap (t15 + 1)))))) (
    .pure (.done (.inl (last6, found7))))
noncomputable def cells_Hit_T (widths0 : List Int) (cell1 : Int) : Tr (Int × Bool) :=
  .alt (loopW (fun s => (cells_Hit_L4 s.1 s.2.1 s.2.2.1 s.2.2.2.1 s.2.2.2.2.1 s.2.2.2.2.2).run) (0, false, if 0 > cell1 then 0 else cell1, widths0, (widths0.length : Int), 0)) (fun l_2 =>
    .pure (l_2.1, l_2.2)) (fun l_3 =>
    .pure (l_3.1, l_3.2))
noncomputable def cells_Hit_F (widths0 : List Int) (cell1 : Int) : Option (Int × Bool) := (cells_Hit_T widths0 cell1).run
def cells_Hit_L : List (Nat × LoopAnn) := [(4, { head := [.sv 6 true (.int .i64), .sv 7 true .bool, .sv 8 true (.int .i64), .sv 13 false (.sl (.int .i64)), .sv 14 true (.int .i64), .sv 15 true (.int .i64)], xid := 0, out := [.sv 6 true (.int .i64), .sv 7 true .bool], hasRet := true, res := [.sv 4 true (.int .i64), .sv 5 true .bool] })]
noncomputable def cells_Hit_C : List (Nat × Fun) := []
noncomputable def cells_Hit_fun : Fun := ⟨[.sl (.int .i64), .int .i64], [.v (.int .i64), .v .bool], fun x => cells_Hit_F x.1 x.2.1⟩
theorem cells_Hit_ev (x : Tys.I [.sl (.int .i64), .int .i64]) : evFun G0 (fun f => olook f cells_Hit_C) ⟨[]⟩ (fun i => olook i cells_Hit_L) Try.f22 [.sl (.int .i64), .int .i64] [.v (.int .i64), .v .bool] x = cells_Hit_T x.1 x.2.1 := by kernel_rfl
theorem cells_Hit_ok : FunOk Try.prog 22 cells_Hit_fun := evFun_ok mixed ctx0 (no_calls) Try.func22 (by kernel_rfl) _ (fun x => congrArg Tr.run (cells_Hit_ev x)) (by kernel_rfl) (by kernel_rfl)
/-! ### boustrophedon/boustrophedonlaw28.awake -/
noncomputable def law28_awake_T : Tr Bool :=
  .bnd (cells_Starts_F ([1, 0, 2])) fun c_1 =>
  .bnd (cells_Hit_F ([1, 0, 2]) 1) fun c_2 =>
  .bnd (cells_Hit_F ([1, 0, 2]) 9) fun c_3 =>
  .bnd (cells_Hit_F ([1, 0, 2]) (-1)) fun c_4 =>
  .bnd (cells_Hit_F ([0]) 0) fun c_5 =>
  .br ((c_1.1.length : Int) == 3) (
    .bnd (idx c_1.1 1) fun x_6 =>
    .br (x_6 == 1) (
      .bnd (idx c_1.1 2) fun x_7 =>
      .br (x_7 == 1) (
        .br (c_1.2 == 3) (
          .br (c_2.1 == 2) (
            .br c_2.2 (
              .br (c_3.1 == 2) (
                .br c_3.2 (
                  .br (c_4.1 == 0) (
                    .br c_4.2 (
                      .pure (!c_5.2)) (
                      .pure false)) (
                    .pure false)) (
                  .pure false)) (
                .pure false)) (
              .pure false)) (
            .pure false)) (
          .pure false)) (
        .pure false)) (
      .pure false)) (
    .pure false)
noncomputable def law28_awake_F : Option Bool := (law28_awake_T).run
def law28_awake_L : List (Nat × LoopAnn) := []
noncomputable def law28_awake_C : List (Nat × Fun) := [(20, cells_Starts_fun), (22, cells_Hit_fun)]
noncomputable def law28_awake_fun : Fun := ⟨[], [.v .bool], fun _ => law28_awake_F⟩
theorem law28_awake_ev (x : Tys.I []) : evFun G0 (fun f => olook f law28_awake_C) ⟨[]⟩ (fun i => olook i law28_awake_L) Try.f19 [] [.v .bool] x = law28_awake_T := by kernel_rfl
theorem law28_awake_ok : FunOk Try.prog 19 law28_awake_fun := evFun_ok mixed ctx0 (cons_calls cells_Starts_ok (cons_calls cells_Hit_ok (no_calls))) Try.func19 (by kernel_rfl) _ (fun x => congrArg Tr.run (law28_awake_ev x)) (by kernel_rfl) (by kernel_rfl)
/-! ### boustrophedon/boustrophedonlaw28.CellsStarts -/
noncomputable def law28_CellsStarts_L8 (widths0 : List Int) (s3 : List Int) (n4 : Int) (sum5 : Int) (k6 : Int) : Tr (Lap (List Int × List Int × Int × Int × Int) (Sum (Int × Int) Bool)) :=
  .br (decide (k6 < (widths0.length : Int))) (
    .bnd (idx s3 k6) fun x_3 =>
    .br (x_3 != sum5) (
      .pure (.done (.inr false))) (
      .bnd (idx widths0 k6) fun x_4 =>
      .pure (.next (widths0, s3, n4, IntKind.i64.wrap (sum5 + x_4), IntKind.i64.wrap (k6 + 1))))) (
    .pure (.done (.inl (n4, sum5))))
noncomputable def law28_CellsStarts_T (widths0 : List Int) : Tr Bool :=
  .bnd law28_awake_F fun c_1 =>
  .br (!c_1) (
    .pure false) (
    .bnd (cells_Starts_F widths0) fun c_2 =>
    .br ((c_2.1.length : Int) != (widths0.length : Int)) (
      .pure false) (
      .alt (loopW (fun s => (law28_CellsStarts_L8 s.1 s.2.1 s.2.2.1 s.2.2.2.1 s.2.2.2.2).run) (widths0, c_2.1, c_2.2, 0, 0)) (fun l_5 =>
        .pure (l_5.1 == l_5.2)) (fun l_6 =>
        .pure l_6)))
noncomputable def law28_CellsStarts_F (widths0 : List Int) : Option Bool := (law28_CellsStarts_T widths0).run
def law28_CellsStarts_L : List (Nat × LoopAnn) := [(8, { head := [.sv 0 false (.sl (.int .i64)), .srow 3 1000003 3 true (.int .i64), .sv 4 true (.int .i64), .sv 5 true (.int .i64), .sv 6 true (.int .i64)], xid := 0, out := [.sv 4 true (.int .i64), .sv 5 true (.int .i64)], hasRet := true, res := [.sv 2 true .bool] })]
noncomputable def law28_CellsStarts_C : List (Nat × Fun) := [(19, law28_awake_fun), (20, cells_Starts_fun)]
noncomputable def law28_CellsStarts_fun : Fun := ⟨[.sl (.int .i64)], [.v .bool], fun x => law28_CellsStarts_F x.1⟩
theorem law28_CellsStarts_ev (x : Tys.I [.sl (.int .i64)]) : evFun G0 (fun f => olook f law28_CellsStarts_C) ⟨[]⟩ (fun i => olook i law28_CellsStarts_L) Try.f9 [.sl (.int .i64)] [.v .bool] x = law28_CellsStarts_T x.1 := by kernel_rfl
theorem law28_CellsStarts_ok : FunOk Try.prog 9 law28_CellsStarts_fun := evFun_ok mixed ctx0 (cons_calls law28_awake_ok (cons_calls cells_Starts_ok (no_calls))) Try.func9 (by kernel_rfl) _ (fun x => congrArg Tr.run (law28_CellsStarts_ev x)) (by kernel_rfl) (by kernel_rfl)
/-! ### boustrophedon/boustrophedonlaw22.Widths -/
noncomputable def law22_Widths_L3 (ns0 : List Int) (out3 : List Int) (k4 : Int) : Tr (Lap (List Int × List Int × Int) (List Int)) :=
  .br (decide (k4 < (ns0.length : Int))) (
    .bnd (idx ns0 k4) fun x_1 =>
    .bnd (app 17592186044416 out3 ([IntKind.i64.wrap (x_1.tmod 3)])) fun r_2 =>
    .pure (.next (ns0, r_2, IntKind.i64.wrap (k4 + 1)))) (
    .pure (.done out3))
noncomputable def law22_Widths_T (ns0 : List Int) : Tr (List Int) :=
  .bnd (loopW (fun s => (law22_Widths_L3 s.1 s.2.1 s.2.2).run) (ns0, [], 0)) fun l_3 =>
  .pure l_3
noncomputable def law22_Widths_F (ns0 : List Int) : Option (List Int) := (law22_Widths_T ns0).run
def law22_Widths_L : List (Nat × LoopAnn) := [(3, { head := [.sv 0 false (.sl (.int .u8)), .srow 3 1000003 3 true (.int .i64), .sv 4 true (.int .i64)], xid := 0, out := [.srow 3 1000003 3 true (.int .i64)], hasRet := false, res := [] })]
noncomputable def law22_Widths_C : List (Nat × Fun) := []
noncomputable def law22_Widths_fun : Fun := ⟨[.sl (.int .u8)], [.row 3 (.int .i64)], fun x => law22_Widths_F x.1⟩
theorem law22_Widths_ev (x : Tys.I [.sl (.int .u8)]) : evFun G0 (fun f => olook f law22_Widths_C) ⟨[]⟩ (fun i => olook i law22_Widths_L) Try.f21 [.sl (.int .u8)] [.row 3 (.int .i64)] x = law22_Widths_T x.1 := by kernel_rfl
theorem law22_Widths_ok : FunOk Try.prog 21 law22_Widths_fun := evFun_ok mixed ctx0 (no_calls) Try.func21 (by kernel_rfl) _ (fun x => congrArg Tr.run (law22_Widths_ev x)) (by kernel_rfl) (by kernel_rfl)
/-! ### boustrophedon/boustrophedonlaw28.CellsHit -/
noncomputable def law28_CellsHit_T (t0 : List Int) (t1 : Int) : Tr Bool :=
  .bnd law28_awake_F fun c_1 =>
  .br (!c_1) (
    .pure false) (
    .bnd (law22_Widths_F t0) fun c_2 =>
    .bnd (cells_Starts_F c_2) fun c_3 =>
    .bnd (cells_Hit_F c_2 t1) fun c_4 =>
    .br ((c_3.1.length : Int) != (c_2.length : Int)) (
      .pure false) (
      .br (!(c_4.2 == (decide (c_3.2 > 0)))) (
        .pure false) (
        .br (!c_4.2) (
          .pure (c_4.1 == 0)) (
          .br (decide (c_4.1 ≥ 0)) (
            .br (decide (c_4.1 < (c_2.length : Int))) (
              .bnd (idx c_2 c_4.1) fun x_5 =>
              .br (decide (x_5 > 0)) (
                .bnd (idx c_3.1 c_4.1) fun x_6 =>
                .br (decide (x_6 ≤ (if (if (IntKind.i64.wrap (c_3.2 - 1)) < t1 then (IntKind.i64.wrap (c_3.2 - 1)) else t1) > 0 then (if (IntKind.i64.wrap (c_3.2 - 1)) < t1 then (IntKind.i64.wrap (c_3.2 - 1)) else t1) else 0))) (
                  .bnd (idx c_3.1 c_4.1) fun x_7 =>
                  .bnd (idx c_2 c_4.1) fun x_8 =>
                  .pure (decide ((if (if (IntKind.i64.wrap (c_3.2 - 1)) < t1 then (IntKind.i64.wrap (c_3.2 - 1)) else t1) > 0 then (if (IntKind.i64.wrap (c_3.2 - 1)) < t1 then (IntKind.i64.wrap (c_3.2 - 1)) else t1) else 0) < (IntKind.i64.wrap (x_7 + x_8))))) (
                  .pure false)) (
                .pure false)) (
              .pure false)) (
            .pure false)))))
noncomputable def law28_CellsHit_F (t0 : List Int) (t1 : Int) : Option Bool := (law28_CellsHit_T t0 t1).run
def law28_CellsHit_L : List (Nat × LoopAnn) := []
noncomputable def law28_CellsHit_C : List (Nat × Fun) := [(19, law28_awake_fun), (21, law22_Widths_fun), (20, cells_Starts_fun), (22, cells_Hit_fun)]
noncomputable def law28_CellsHit_fun : Fun := ⟨[.sl (.int .u8), .int .i64], [.v .bool], fun x => law28_CellsHit_F x.1 x.2.1⟩
theorem law28_CellsHit_ev (x : Tys.I [.sl (.int .u8), .int .i64]) : evFun G0 (fun f => olook f law28_CellsHit_C) ⟨[]⟩ (fun i => olook i law28_CellsHit_L) Try.f10 [.sl (.int .u8), .int .i64] [.v .bool] x = law28_CellsHit_T x.1 x.2.1 := by kernel_rfl
theorem law28_CellsHit_ok : FunOk Try.prog 10 law28_CellsHit_fun := evFun_ok mixed ctx0 (cons_calls law28_awake_ok (cons_calls law22_Widths_ok (cons_calls cells_Starts_ok (cons_calls cells_Hit_ok (no_calls))))) Try.func10 (by kernel_rfl) _ (fun x => congrArg Tr.run (law28_CellsHit_ev x)) (by kernel_rfl) (by kernel_rfl)
/-! ### boustrophedon/boustrophedonlaw28.CellsAll -/
noncomputable def law28_CellsAll_L8 (t3 : List Int) (t4 : List Int) (t6 : Int) (t7 : Int) (t8 : Int) : Tr (Lap (List Int × List Int × Int × Int × Int) (Sum (List Int × List Int) Bool)) :=
  .br (decide (t8 < t6)) (
    .bnd (cells_Hit_F t3 t8) fun c_5 =>
    .br (!c_5.2) (
      .pure (.done (.inr false))) (
      .br (decide (c_5.1 < t7)) (
        .pure (.done (.inr false))) (
        .br (decide (c_5.1 ≥ (t3.length : Int))) (
          .pure (.done (.inr false))) (
          .bnd (idx t4 c_5.1) fun x_6 =>
          .bnd (idx t4 c_5.1) fun x_7 =>
          .pure (.next (t3, t4.set (Int.toNat c_5.1) (IntKind.i64.wrap (x_6 + 1)), t6, c_5.1, IntKind.i64.wrap (t8 + 1))))))) (
    .pure (.done (.inl (t3, t4))))
noncomputable def law28_CellsAll_L16 (t3 : List Int) (t4 : List Int) (t56 : Int) (t57 : Int) : Tr (Lap (List Int × List Int × Int × Int) (Sum Unit Bool)) :=
  .br (decide (t57 < t56)) (
    .bnd (idx t4 t57) fun x_9 =>
    .bnd (idx t3 t57) fun x_10 =>
    .br (x_9 != x_10) (
      .pure (.done (.inr false))) (
      .pure (.next (t3, t4, t56, IntKind.i64.wrap (t57 + 1))))) (
    .pure (.done (.inl ())))
noncomputable def law28_CellsAll_T (t0 : List Int) : Tr Bool :=
  .bnd law28_awake_F fun c_1 =>
  .br (!c_1) (
    .pure false) (
    .bnd (law22_Widths_F t0) fun c_2 =>
    .bnd (mk 17592186044416 0 (c_2.length : Int)) fun r_3 =>
    .bnd (cells_Starts_F c_2) fun c_4 =>
    .alt (loopW (fun s => (law28_CellsAll_L8 s.1 s.2.1 s.2.2.1 s.2.2.2.1 s.2.2.2.2).run) (c_2, r_3, c_4.2, 0, 0)) (fun l_8 =>
      .alt (loopW (fun s => (law28_CellsAll_L16 s.1 s.2.1 s.2.2.1 s.2.2.2).run) (l_8.1, l_8.2, (l_8.2.length : Int), 0)) (fun l_11 =>
        .pure true) (fun l_12 =>
        .pure l_12)) (fun l_13 =>
      .pure l_13))
noncomputable def law28_CellsAll_F (t0 : List Int) : Option Bool := (law28_CellsAll_T t0).run
def law28_CellsAll_L : List (Nat × LoopAnn) := [(8, { head := [.srow 3 1000003 3 true (.int .i64), .srow 4 1000004 3 true (.int .i64), .sv 6 true (.int .i64), .sv 7 true (.int .i64), .sv 8 true (.int .i64)], xid := 0, out := [.srow 3 1000003 3 true (.int .i64), .srow 4 1000004 3 true (.int .i64)], hasRet := true, res := [.sv 2 true .bool] }), (16, { head := [.srow 3 1000003 3 true (.int .i64), .srow 4 1000004 3 true (.int .i64), .sv 56 true (.int .i64), .sv 57 true (.int .i64)], xid := 2, out := [], hasRet := true, res := [.sv 2 true .bool] })]
noncomputable def law28_CellsAll_C : List (Nat × Fun) := [(19, law28_awake_fun), (21, law22_Widths_fun), (20, cells_Starts_fun), (22, cells_Hit_fun)]
noncomputable def law28_CellsAll_fun : Fun := ⟨[.sl (.int .u8)], [.v .bool], fun x => law28_CellsAll_F x.1⟩
theorem law28_CellsAll_ev (x : Tys.I [.sl (.int .u8)]) : evFun G0 (fun f => olook f law28_CellsAll_C) ⟨[]⟩ (fun i => olook i law28_CellsAll_L) Try.f11 [.sl (.int .u8)] [.v .bool] x = law28_CellsAll_T x.1 := by kernel_rfl
theorem law28_CellsAll_ok : FunOk Try.prog 11 law28_CellsAll_fun := evFun_ok mixed ctx0 (cons_calls law28_awake_ok (cons_calls law22_Widths_ok (cons_calls cells_Starts_ok (cons_calls cells_Hit_ok (no_calls))))) Try.func11 (by kernel_rfl) _ (fun x => congrArg Tr.run (law28_CellsAll_ev x)) (by kernel_rfl) (by kernel_rfl)
/-! ### boustrophedon/boustrophedonlaw28.CellsParts -/
noncomputable def law28_CellsParts_L10 (t7 : List Int) (t8 : Int) (t9 : List Int) (t68 : List Int) (t69 : Int) (t70 : Int) : Tr (Lap (List Int × Int × List Int × List Int × Int × Int) (Sum Unit Bool)) :=
  .br (decide (t70 < t69)) (
    .bnd (idx t68 t70) fun x_9 =>
    .br (decide (t70 < (t7.length : Int))) (
      .bnd (idx t7 t70) fun x_10 =>
      .br (x_9 != x_10) (
        .pure (.done (.inr false))) (
        .br (decide (t70 ≥ (t7.length : Int))) (
          .bnd (idx t9 (IntKind.i64.wrap (t70 - (t7.length : Int)))) fun x_11 =>
          .br (x_9 != (IntKind.i64.wrap (t8 + x_11))) (
            .pure (.done (.inr false))) (
            .pure (.next (t7, t8, t9, t68, t69, IntKind.i64.wrap (t70 + 1))))) (
          .pure (.next (t7, t8, t9, t68, t69, IntKind.i64.wrap (t70 + 1)))))) (
      .br (decide (t70 ≥ (t7.length : Int))) (
        .bnd (idx t9 (IntKind.i64.wrap (t70 - (t7.length : Int)))) fun x_12 =>
        .br (x_9 != (IntKind.i64.wrap (t8 + x_12))) (
          .pure (.done (.inr false))) (
          .pure (.next (t7, t8, t9, t68, t69, IntKind.i64.wrap (t70 + 1))))) (
        .pure (.next (t7, t8, t9, t68, t69, IntKind.i64.wrap (t70 + 1)))))) (
    .pure (.done (.inl ())))
noncomputable def law28_CellsParts_T (t0 : List Int) (t1 : List Int) : Tr Bool :=
  .bnd law28_awake_F fun c_1 =>
  .br (!c_1) (
    .pure false) (
    .bnd (law22_Widths_F t0) fun c_2 =>
    .bnd (law22_Widths_F t1) fun c_3 =>
    .bnd (cells_Starts_F c_2) fun c_4 =>
    .bnd (cells_Starts_F c_3) fun c_5 =>
    .bnd (app 17592186044416 [] c_2) fun r_6 =>
    .bnd (app 17592186044416 r_6 c_3) fun r_7 =>
    .bnd (cells_Starts_F r_7) fun c_8 =>
    .br ((c_4.1.length : Int) != (c_2.length : Int)) (
      .pure false) (
      .br ((c_5.1.length : Int) != (c_3.length : Int)) (
        .pure false) (
        .br ((c_8.1.length : Int) != (IntKind.i64.wrap ((c_2.length : Int) + (c_3.length : Int)))) (
          .pure false) (
          .br (c_8.2 != (IntKind.i64.wrap (c_4.2 + c_5.2))) (
            .pure false) (
            .alt (loopW (fun s => (law28_CellsParts_L10 s.1 s.2.1 s.2.2.1 s.2.2.2.1 s.2.2.2.2.1 s.2.2.2.2.2).run) (c_4.1, c_4.2, c_5.1, c_8.1, (c_8.1.length : Int), 0)) (fun l_13 =>
              .pure true) (fun l_14 =>
              .pure l_14))))))
noncomputable def law28_CellsParts_F (t0 : List Int) (t1 : List Int) : Option Bool := (law28_CellsParts_T t0 t1).run
def law28_CellsParts_L : List (Nat × LoopAnn) := [(10, { head := [.srow 7 1000007 3 true (.int .i64), .sv 8 true (.int .i64), .srow 9 1000009 3 true (.int .i64), .srow 68 1000068 3 true (.int .i64), .sv 69 true (.int .i64), .sv 70 true (.int .i64)], xid := 0, out := [], hasRet := true, res := [.sv 4 true .bool] })]
noncomputable def law28_CellsParts_C : List (Nat × Fun) := [(19, law28_awake_fun), (21, law22_Widths_fun), (20, cells_Starts_fun)]
noncomputable def law28_CellsParts_fun : Fun := ⟨[.sl (.int .u8), .sl (.int .u8)], [.v .bool], fun x => law28_CellsParts_F x.1 x.2.1⟩
theorem law28_CellsParts_ev (x : Tys.I [.sl (.int .u8), .sl (.int .u8)]) : evFun G0 (fun f => olook f law28_CellsParts_C) ⟨[]⟩ (fun i => olook i law28_CellsParts_L) Try.f12 [.sl (.int .u8), .sl (.int .u8)] [.v .bool] x = law28_CellsParts_T x.1 x.2.1 := by kernel_rfl
theorem law28_CellsParts_ok : FunOk Try.prog 12 law28_CellsParts_fun := evFun_ok mixed ctx0 (cons_calls law28_awake_ok (cons_calls law22_Widths_ok (cons_calls cells_Starts_ok (no_calls)))) Try.func12 (by kernel_rfl) _ (fun x => congrArg Tr.run (law28_CellsParts_ev x)) (by kernel_rfl) (by kernel_rfl)
end Go.Proofs.Ytfjhbhnelkpgdaa
