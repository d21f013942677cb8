/-
  The plain readings of the functions of this seat, by program; each is tied to the loaded function.
-/
import Derived.Test.YtfljkcfahhkfbaaEvMain
import Derived.Test.YtfljkcfahhkfbaaChecked
namespace Go.Proofs.Ytfljkcfahhkfbaa
set_option maxRecDepth 100000
set_option linter.unusedVariables false

def G0 : Ctx := { ty := [(3, .int .i64), (4, .bool), (5, .int .u8), (21, .int .i32), (22, .sl (.int .i32)), (23, .sl (.int .u8)), (25, .sl (.int .u8)), (27, .sl (.st (.pair (.int .i64) (.pair (.int .i64) (.int .i64))))), (30, .st (.pair (.int .i64) (.pair (.int .i64) (.int .i64)))), (31, .int .u8), (35, .sl (.int .i64)), (48, .int .i64)], sls := [(22, ⟨21, .int .i32, 35184372088832⟩), (23, ⟨5, .int .u8, 140737488355328⟩), (25, ⟨31, .int .u8, 140737488355328⟩), (27, ⟨30, .st (.pair (.int .i64) (.pair (.int .i64) (.int .i64))), 5864062014805⟩), (35, ⟨3, .int .i64, 17592186044416⟩)], eqs := [(30, .pair (.int .i64) (.pair (.int .i64) (.int .i64)))] }
theorem mixed : Try.prog.follows .mixedOrders = true := by kernel_rfl
theorem ctx0 : CtxOk Try.prog G0 := ctx_ok (by kernel_rfl)
theorem no_calls : ∀ f fa, olook f ([] : List (Nat × Fun)) = some fa → FunOk Try.prog f fa := fun _ _ h => by cases h
theorem cons_calls {k : Nat} {fb : Fun} {l : List (Nat × Fun)} (h : FunOk Try.prog k fb) (hl : ∀ f fa, olook f l = some fa → FunOk Try.prog f fa) : ∀ f fa, olook f ((k, fb) :: l) = some fa → FunOk Try.prog f fa := by
  intro f fa hf
  rw [olook_cons] at hf
  split at hf
  · rename_i e; subst e; cases hf; exact h
  · exact hl f fa hf

/-! ### boustrophedon/para.next -/
noncomputable def para_next_L2 (rs0 : List Int) (cs1 : List Int) (from2 : Int) (t6 : Int × Int × Int) (i7 : Int) : Tr (Lap (List Int × List Int × Int × (Int × Int × Int) × Int) (Sum (List Int × Int × Int × Int × Int) (Int × Int × Int))) :=
  .br (decide (i7 < (rs0.length : Int))) (
    .bnd (idx cs1 i7) fun x_1 =>
    .br (x_1 != 10) (
      .pure (.next (rs0, cs1, from2, t6, IntKind.i64.wrap (i7 + 1)))) (
      .bnd (idx rs0 i7) fun x_2 =>
      .br (x_2 == 13) (
        .br (decide ((IntKind.i64.wrap (i7 + 1)) < (rs0.length : Int))) (
          .bnd (idx rs0 (IntKind.i64.wrap (i7 + 1))) fun x_3 =>
          .br (x_3 == 10) (
            .pure (.done (.inr (from2, IntKind.i64.wrap (i7 + 2), 2)))) (
            .pure (.done (.inr (from2, IntKind.i64.wrap (i7 + 1), 1))))) (
          .pure (.done (.inr (from2, IntKind.i64.wrap (i7 + 1), 1))))) (
        .pure (.done (.inr (from2, IntKind.i64.wrap (i7 + 1), 1)))))) (
    .pure (.done (.inl (rs0, from2, t6))))
noncomputable def para_next_T (rs0 : List Int) (cs1 : List Int) (from2 : Int) : Tr (Int × Int × Int) :=
  .alt (loopW (fun s => (para_next_L2 s.1 s.2.1 s.2.2.1 s.2.2.2.1 s.2.2.2.2).run) (rs0, cs1, from2, (0, 0, 0), from2)) (fun l_4 =>
    .pure (l_4.2.1, (l_4.1.length : Int), 0)) (fun l_5 =>
    .pure l_5)
noncomputable def para_next_F (rs0 : List Int) (cs1 : List Int) (from2 : Int) : Option (Int × Int × Int) := (para_next_T rs0 cs1 from2).run
def para_next_L : List (Nat × LoopAnn) := [(2, { head := [.sv 0 false (.sl (.int .i32)), .sv 1 false (.sl (.int .u8)), .sv 2 false (.int .i64), .sbox 6 1000006 30 true (.st (.pair (.int .i64) (.pair (.int .i64) (.int .i64)))), .sv 7 false (.int .i64)], xid := 0, out := [.sv 0 false (.sl (.int .i32)), .sv 2 false (.int .i64), .sbox 6 1000006 30 true (.st (.pair (.int .i64) (.pair (.int .i64) (.int .i64))))], hasRet := true, res := [.sbox 6 1000006 30 true (.st (.pair (.int .i64) (.pair (.int .i64) (.int .i64))))] })]
noncomputable def para_next_C : List (Nat × Fun) := []
noncomputable def para_next_fun : Fun := ⟨[.sl (.int .i32), .sl (.int .u8), .int .i64], [.v (.st (.pair (.int .i64) (.pair (.int .i64) (.int .i64))))], fun x => para_next_F x.1 x.2.1 x.2.2.1⟩
theorem para_next_ev (x : Tys.I [.sl (.int .i32), .sl (.int .u8), .int .i64]) : evFun G0 (fun f => olook f para_next_C) ⟨[]⟩ (fun i => olook i para_next_L) Try.f27 [.sl (.int .i32), .sl (.int .u8), .int .i64] [.v (.st (.pair (.int .i64) (.pair (.int .i64) (.int .i64))))] x = para_next_T x.1 x.2.1 x.2.2.1 := by kernel_rfl
theorem para_next_ok : FunOk Try.prog 27 para_next_fun := evFun_ok mixed ctx0 (no_calls) Try.func27 (by kernel_rfl) _ (fun x => congrArg Tr.run (para_next_ev x)) (by kernel_rfl) (by kernel_rfl)
/-! ### boustrophedon/para.Split -/
noncomputable def para_Split_L4 (rs0 : List Int) (cs1 : List Int) (n5 : Int) (ps6 : List (Int × Int × Int)) (from7 : Int) : Tr (Lap (List Int × List Int × Int × (List (Int × Int × Int)) × Int) (List (Int × Int × Int))) :=
  .br (decide (from7 < n5)) (
    .bnd (cut rs0 0 n5) fun r_1 =>
    .bnd (para_next_F r_1 cs1 from7) fun c_2 =>
    .bnd (idx ([c_2]) 0) fun x_3 =>
    .bnd (app 5864062014805 ps6 ([x_3])) fun r_4 =>
    .bnd (idx ([c_2]) 0) fun x_5 =>
    .pure (.next (rs0, cs1, n5, r_4, x_5.2.1))) (
    .pure (.done ps6))
noncomputable def para_Split_T (rs0 : List Int) (cs1 : List Int) : Tr (List (Int × Int × Int)) :=
  .bnd (loopW (fun s => (para_Split_L4 s.1 s.2.1 s.2.2.1 s.2.2.2.1 s.2.2.2.2).run) (rs0, cs1, if (cs1.length : Int) < (rs0.length : Int) then (cs1.length : Int) else (rs0.length : Int), [], 0)) fun l_6 =>
  .pure l_6
noncomputable def para_Split_F (rs0 : List Int) (cs1 : List Int) : Option (List (Int × Int × Int)) := (para_Split_T rs0 cs1).run
def para_Split_L : List (Nat × LoopAnn) := [(4, { head := [.sv 0 false (.sl (.int .i32)), .sv 1 false (.sl (.int .u8)), .sv 5 true (.int .i64), .srow 6 1000006 30 true (.st (.pair (.int .i64) (.pair (.int .i64) (.int .i64)))), .sv 7 true (.int .i64)], xid := 0, out := [.srow 6 1000006 30 true (.st (.pair (.int .i64) (.pair (.int .i64) (.int .i64))))], hasRet := false, res := [] })]
noncomputable def para_Split_C : List (Nat × Fun) := [(27, para_next_fun)]
noncomputable def para_Split_fun : Fun := ⟨[.sl (.int .i32), .sl (.int .u8)], [.row 30 (.st (.pair (.int .i64) (.pair (.int .i64) (.int .i64))))], fun x => para_Split_F x.1 x.2.1⟩
theorem para_Split_ev (x : Tys.I [.sl (.int .i32), .sl (.int .u8)]) : evFun G0 (fun f => olook f para_Split_C) ⟨[]⟩ (fun i => olook i para_Split_L) Try.f16 [.sl (.int .i32), .sl (.int .u8)] [.row 30 (.st (.pair (.int .i64) (.pair (.int .i64) (.int .i64))))] x = para_Split_T x.1 x.2.1 := by kernel_rfl
theorem para_Split_ok : FunOk Try.prog 16 para_Split_fun := evFun_ok mixed ctx0 (cons_calls para_next_ok (no_calls)) Try.func16 (by kernel_rfl) _ (fun x => congrArg Tr.run (para_Split_ev x)) (by kernel_rfl) (by kernel_rfl)
/-! ### boustrophedon/boustrophedonlaw08.awake -/
noncomputable def law08_awake_T : Tr Bool :=
  .bnd (para_Split_F ([97, 13, 10, 98]) ([0, 10, 10, 0])) fun c_1 =>
  .bnd (para_Split_F ([10, 10]) ([10, 10])) fun c_2 =>
  .br ((c_1.length : Int) == 2) (
    .bnd (idx c_1 0) fun x_3 =>
    .br ((x_3.1 == 0) && ((x_3.2.1 == 3) && (x_3.2.2 == 2))) (
      .bnd (idx c_1 1) fun x_4 =>
      .br ((x_4.1 == 3) && ((x_4.2.1 == 4) && (x_4.2.2 == 0))) (
        .br ((c_2.length : Int) == 2) (
          .bnd (idx c_2 1) fun x_5 =>
          .pure ((x_5.1 == 1) && ((x_5.2.1 == 2) && (x_5.2.2 == 1)))) (
          .pure false)) (
        .pure false)) (
      .pure false)) (
    .pure false)
noncomputable def law08_awake_F : Option Bool := (law08_awake_T).run
def law08_awake_L : List (Nat × LoopAnn) := []
noncomputable def law08_awake_C : List (Nat × Fun) := [(16, para_Split_fun)]
noncomputable def law08_awake_fun : Fun := ⟨[], [.v .bool], fun _ => law08_awake_F⟩
theorem law08_awake_ev (x : Tys.I []) : evFun G0 (fun f => olook f law08_awake_C) ⟨[]⟩ (fun i => olook i law08_awake_L) Try.f14 [] [.v .bool] x = law08_awake_T := by kernel_rfl
theorem law08_awake_ok : FunOk Try.prog 14 law08_awake_fun := evFun_ok mixed ctx0 (cons_calls para_Split_ok (no_calls)) Try.func14 (by kernel_rfl) _ (fun x => congrArg Tr.run (law08_awake_ev x)) (by kernel_rfl) (by kernel_rfl)
/-! ### boustrophedon/boustrophedonlaw08.Classes -/
noncomputable def law08_Classes_L3 (ns0 : List Int) (out3 : List Int) (k4 : Int) : Tr (Lap (List Int × List Int × Int) (List Int)) :=
  .br (decide (k4 < (ns0.length : Int))) (
    .bnd (idx ns0 k4) fun x_1 =>
    .bnd (app 140737488355328 out3 ([x_1.tmod 23])) fun r_2 =>
    .pure (.next (ns0, r_2, IntKind.i64.wrap (k4 + 1)))) (
    .pure (.done out3))
noncomputable def law08_Classes_T (ns0 : List Int) : Tr (List Int) :=
  .bnd (loopW (fun s => (law08_Classes_L3 s.1 s.2.1 s.2.2).run) (ns0, [], 0)) fun l_3 =>
  .pure l_3
noncomputable def law08_Classes_F (ns0 : List Int) : Option (List Int) := (law08_Classes_T ns0).run
def law08_Classes_L : List (Nat × LoopAnn) := [(3, { head := [.sv 0 false (.sl (.int .u8)), .srow 3 1000003 31 true (.int .u8), .sv 4 true (.int .i64)], xid := 0, out := [.srow 3 1000003 31 true (.int .u8)], hasRet := false, res := [] })]
noncomputable def law08_Classes_C : List (Nat × Fun) := []
noncomputable def law08_Classes_fun : Fun := ⟨[.sl (.int .u8)], [.row 31 (.int .u8)], fun x => law08_Classes_F x.1⟩
theorem law08_Classes_ev (x : Tys.I [.sl (.int .u8)]) : evFun G0 (fun f => olook f law08_Classes_C) ⟨[]⟩ (fun i => olook i law08_Classes_L) Try.f15 [.sl (.int .u8)] [.row 31 (.int .u8)] x = law08_Classes_T x.1 := by kernel_rfl
theorem law08_Classes_ok : FunOk Try.prog 15 law08_Classes_fun := evFun_ok mixed ctx0 (no_calls) Try.func15 (by kernel_rfl) _ (fun x => congrArg Tr.run (law08_Classes_ev x)) (by kernel_rfl) (by kernel_rfl)
/-! ### boustrophedon/boustrophedonlaw08.ParaSplits -/
noncomputable def law08_ParaSplits_L12 (t0 : List Int) (t5 : List Int) (t6 : Int) (t9 : Int × Int × Int) (t10 : Int) (t23 : List (Int × Int × Int)) (t24 : Int) (t25 : Int) : Tr (Lap (List Int × List Int × Int × (Int × Int × Int) × Int × (List (Int × Int × Int)) × Int × Int) (Sum (List Int × List Int × Int × (Int × Int × Int) × (List (Int × Int × Int)) × Int × Int) Bool)) :=
  .bnd (idx ([t9]) 0) fun x_11 =>
  .br (decide (t10 < x_11.2.1)) (
    .bnd (idx ([t9]) 0) fun x_12 =>
    .bnd (idx ([t9]) 0) fun x_13 =>
    .bnd (idx t5 t10) fun x_14 =>
    .br ((decide (t10 < (IntKind.i64.wrap (x_12.2.1 - x_13.2.2)))) == (x_14 == 10)) (
      .bnd (idx ([t9]) 0) fun x_15 =>
      .br (x_15.2.2 == 2) (
        .bnd (idx ([t9]) 0) fun x_16 =>
        .br (!(t10 == (IntKind.i64.wrap (x_16.2.1 - 1)))) (
          .pure (.done (.inr false))) (
          .pure (.next (t0, t5, t6, t9, IntKind.i64.wrap (t10 + 1), t23, t24, t25)))) (
        .pure (.done (.inr false)))) (
      .pure (.next (t0, t5, t6, t9, IntKind.i64.wrap (t10 + 1), t23, t24, t25)))) (
    .pure (.done (.inl (t0, t5, t6, t9, t23, t24, t25))))
noncomputable def law08_ParaSplits_L7 (t0 : List Int) (t5 : List Int) (t6 : Int) (t7 : Int) (t23 : List (Int × Int × Int)) (t24 : Int) (t25 : Int) : Tr (Lap (List Int × List Int × Int × Int × (List (Int × Int × Int)) × Int × Int) (Sum (Int × Int) Bool)) :=
  .br (decide (t25 < t24)) (
    .bnd (idx t23 t25) fun x_4 =>
    .bnd (idx ([x_4]) 0) fun x_5 =>
    .br (x_5.1 != t7) (
      .pure (.done (.inr false))) (
      .bnd (idx ([x_4]) 0) fun x_6 =>
      .br (decide (x_6.2.1 ≤ t7)) (
        .pure (.done (.inr false))) (
        .bnd (idx ([x_4]) 0) fun x_7 =>
        .br (decide (x_7.2.1 > t6)) (
          .pure (.done (.inr false))) (
          .bnd (idx ([x_4]) 0) fun x_8 =>
          .br (decide (x_8.2.2 < 0)) (
            .pure (.done (.inr false))) (
            .bnd (idx ([x_4]) 0) fun x_9 =>
            .br (decide (x_9.2.2 > 2)) (
              .pure (.done (.inr false))) (
              .bnd (idx ([x_4]) 0) fun x_10 =>
              .alt (loopW (fun s => (law08_ParaSplits_L12 s.1 s.2.1 s.2.2.1 s.2.2.2.1 s.2.2.2.2.1 s.2.2.2.2.2.1 s.2.2.2.2.2.2.1 s.2.2.2.2.2.2.2).run) (t0, t5, t6, x_4, x_10.1, t23, t24, t25)) (fun l_17 =>
                .bnd (idx ([l_17.2.2.2.1]) 0) fun x_18 =>
                .br (x_18.2.2 == 0) (
                  .bnd (idx ([l_17.2.2.2.1]) 0) fun x_19 =>
                  .br (x_19.2.1 != l_17.2.2.1) (
                    .pure (.done (.inr false))) (
                    .bnd (idx ([l_17.2.2.2.1]) 0) fun x_20 =>
                    .br (x_20.2.2 == 2) (
                      .bnd (idx ([l_17.2.2.2.1]) 0) fun x_21 =>
                      .bnd (idx l_17.1 (IntKind.i64.wrap (x_21.2.1 - 2))) fun x_22 =>
                      .br (x_22 != 13) (
                        .pure (.done (.inr false))) (
                        .bnd (idx ([l_17.2.2.2.1]) 0) fun x_23 =>
                        .bnd (idx l_17.1 (IntKind.i64.wrap (x_23.2.1 - 1))) fun x_24 =>
                        .br (x_24 != 10) (
                          .pure (.done (.inr false))) (
                          .bnd (idx ([l_17.2.2.2.1]) 0) fun x_25 =>
                          .br (x_25.2.2 == 1) (
                            .bnd (idx ([l_17.2.2.2.1]) 0) fun x_26 =>
                            .bnd (idx l_17.1 (IntKind.i64.wrap (x_26.2.1 - 1))) fun x_27 =>
                            .br (x_27 == 13) (
                              .bnd (idx ([l_17.2.2.2.1]) 0) fun x_28 =>
                              .br (decide (x_28.2.1 < l_17.2.2.1)) (
                                .bnd (idx ([l_17.2.2.2.1]) 0) fun x_29 =>
                                .bnd (idx l_17.1 x_29.2.1) fun x_30 =>
                                .br (x_30 == 10) (
                                  .pure (.done (.inr false))) (
                                  .bnd (idx ([l_17.2.2.2.1]) 0) fun x_31 =>
                                  .pure (.next (l_17.1, l_17.2.1, l_17.2.2.1, x_31.2.1, l_17.2.2.2.2.1, l_17.2.2.2.2.2.1, IntKind.i64.wrap (l_17.2.2.2.2.2.2 + 1))))) (
                                .bnd (idx ([l_17.2.2.2.1]) 0) fun x_32 =>
                                .pure (.next (l_17.1, l_17.2.1, l_17.2.2.1, x_32.2.1, l_17.2.2.2.2.1, l_17.2.2.2.2.2.1, IntKind.i64.wrap (l_17.2.2.2.2.2.2 + 1))))) (
                              .bnd (idx ([l_17.2.2.2.1]) 0) fun x_33 =>
                              .pure (.next (l_17.1, l_17.2.1, l_17.2.2.1, x_33.2.1, l_17.2.2.2.2.1, l_17.2.2.2.2.2.1, IntKind.i64.wrap (l_17.2.2.2.2.2.2 + 1))))) (
                            .bnd (idx ([l_17.2.2.2.1]) 0) fun x_34 =>
                            .pure (.next (l_17.1, l_17.2.1, l_17.2.2.1, x_34.2.1, l_17.2.2.2.2.1, l_17.2.2.2.2.2.1, IntKind.i64.wrap (l_17.2.2.2.2.2.2 + 1))))))) (
                      .bnd (idx ([l_17.2.2.2.1]) 0) fun x_35 =>
                      .br (x_35.2.2 == 1) (
                        .bnd (idx ([l_17.2.2.2.1]) 0) fun x_36 =>
                        .bnd (idx l_17.1 (IntKind.i64.wrap (x_36.2.1 - 1))) fun x_37 =>
                        .br (x_37 == 13) (
                          .bnd (idx ([l_17.2.2.2.1]) 0) fun x_38 =>
                          .br (decide (x_38.2.1 < l_17.2.2.1)) (
                            .bnd (idx ([l_17.2.2.2.1]) 0) fun x_39 =>
                            .bnd (idx l_17.1 x_39.2.1) fun x_40 =>
                            .br (x_40 == 10) (
                              .pure (.done (.inr false))) (
                              .bnd (idx ([l_17.2.2.2.1]) 0) fun x_41 =>
                              .pure (.next (l_17.1, l_17.2.1, l_17.2.2.1, x_41.2.1, l_17.2.2.2.2.1, l_17.2.2.2.2.2.1, IntKind.i64.wrap (l_17.2.2.2.2.2.2 + 1))))) (
                            .bnd (idx ([l_17.2.2.2.1]) 0) fun x_42 =>
                            .pure (.next (l_17.1, l_17.2.1, l_17.2.2.1, x_42.2.1, l_17.2.2.2.2.1, l_17.2.2.2.2.2.1, IntKind.i64.wrap (l_17.2.2.2.2.2.2 + 1))))) (
                          .bnd (idx ([l_17.2.2.2.1]) 0) fun x_43 =>
                          .pure (.next (l_17.1, l_17.2.1, l_17.2.2.1, x_43.2.1, l_17.2.2.2.2.1, l_17.2.2.2.2.2.1, IntKind.i64.wrap (l_17.2.2.2.2.2.2 + 1))))) (
                        .bnd (idx ([l_17.2.2.2.1]) 0) fun x_44 =>
                        .pure (.next (l_17.1, l_17.2.1, l_17.2.2.1, x_44.2.1, l_17.2.2.2.2.1, l_17.2.2.2.2.2.1, IntKind.i64.wrap (l_17.2.2.2.2.2.2 + 1))))))) (
                  .bnd (idx ([l_17.2.2.2.1]) 0) fun x_45 =>
                  .br (x_45.2.2 == 2) (
                    .bnd (idx ([l_17.2.2.2.1]) 0) fun x_46 =>
                    .bnd (idx l_17.1 (IntKind.i64.wrap (x_46.2.1 - 2))) fun x_47 =>
                    .br (x_47 != 13) (
                      .pure (.done (.inr false))) (
                      .bnd (idx ([l_17.2.2.2.1]) 0) fun x_48 =>
                      .bnd (idx l_17.1 (IntKind.i64.wrap (x_48.2.1 - 1))) fun x_49 =>
                      .br (x_49 != 10) (
                        .pure (.done (.inr false))) (
                        .bnd (idx ([l_17.2.2.2.1]) 0) fun x_50 =>
                        .br (x_50.2.2 == 1) (
                          .bnd (idx ([l_17.2.2.2.1]) 0) fun x_51 =>
                          .bnd (idx l_17.1 (IntKind.i64.wrap (x_51.2.1 - 1))) fun x_52 =>
                          .br (x_52 == 13) (
                            .bnd (idx ([l_17.2.2.2.1]) 0) fun x_53 =>
                            .br (decide (x_53.2.1 < l_17.2.2.1)) (
                              .bnd (idx ([l_17.2.2.2.1]) 0) fun x_54 =>
                              .bnd (idx l_17.1 x_54.2.1) fun x_55 =>
                              .br (x_55 == 10) (
                                .pure (.done (.inr false))) (
                                .bnd (idx ([l_17.2.2.2.1]) 0) fun x_56 =>
                                .pure (.next (l_17.1, l_17.2.1, l_17.2.2.1, x_56.2.1, l_17.2.2.2.2.1, l_17.2.2.2.2.2.1, IntKind.i64.wrap (l_17.2.2.2.2.2.2 + 1))))) (
                              .bnd (idx ([l_17.2.2.2.1]) 0) fun x_57 =>
                              .pure (.next (l_17.1, l_17.2.1, l_17.2.2.1, x_57.2.1, l_17.2.2.2.2.1, l_17.2.2.2.2.2.1, IntKind.i64.wrap (l_17.2.2.2.2.2.2 + 1))))) (
                            .bnd (idx ([l_17.2.2.2.1]) 0) fun x_58 =>
                            .pure (.next (l_17.1, l_17.2.1, l_17.2.2.1, x_58.2.1, l_17.2.2.2.2.1, l_17.2.2.2.2.2.1, IntKind.i64.wrap (l_17.2.2.2.2.2.2 + 1))))) (
                          .bnd (idx ([l_17.2.2.2.1]) 0) fun x_59 =>
                          .pure (.next (l_17.1, l_17.2.1, l_17.2.2.1, x_59.2.1, l_17.2.2.2.2.1, l_17.2.2.2.2.2.1, IntKind.i64.wrap (l_17.2.2.2.2.2.2 + 1))))))) (
                    .bnd (idx ([l_17.2.2.2.1]) 0) fun x_60 =>
                    .br (x_60.2.2 == 1) (
                      .bnd (idx ([l_17.2.2.2.1]) 0) fun x_61 =>
                      .bnd (idx l_17.1 (IntKind.i64.wrap (x_61.2.1 - 1))) fun x_62 =>
                      .br (x_62 == 13) (
                        .bnd (idx ([l_17.2.2.2.1]) 0) fun x_63 =>
                        .br (decide (x_63.2.1 < l_17.2.2.1)) (
                          .bnd (idx ([l_17.2.2.2.1]) 0) fun x_64 =>
                          .bnd (idx l_17.1 x_64.2.1) fun x_65 =>
                          .br (x_65 == 10) (
                            .pure (.done (.inr false))) (
                            .bnd (idx ([l_17.2.2.2.1]) 0) fun x_66 =>
                            .pure (.next (l_17.1, l_17.2.1, l_17.2.2.1, x_66.2.1, l_17.2.2.2.2.1, l_17.2.2.2.2.2.1, IntKind.i64.wrap (l_17.2.2.2.2.2.2 + 1))))) (
                          .bnd (idx ([l_17.2.2.2.1]) 0) fun x_67 =>
                          .pure (.next (l_17.1, l_17.2.1, l_17.2.2.1, x_67.2.1, l_17.2.2.2.2.1, l_17.2.2.2.2.2.1, IntKind.i64.wrap (l_17.2.2.2.2.2.2 + 1))))) (
                        .bnd (idx ([l_17.2.2.2.1]) 0) fun x_68 =>
                        .pure (.next (l_17.1, l_17.2.1, l_17.2.2.1, x_68.2.1, l_17.2.2.2.2.1, l_17.2.2.2.2.2.1, IntKind.i64.wrap (l_17.2.2.2.2.2.2 + 1))))) (
                      .bnd (idx ([l_17.2.2.2.1]) 0) fun x_69 =>
                      .pure (.next (l_17.1, l_17.2.1, l_17.2.2.1, x_69.2.1, l_17.2.2.2.2.1, l_17.2.2.2.2.2.1, IntKind.i64.wrap (l_17.2.2.2.2.2.2 + 1))))))) (fun l_70 =>
                .pure (.done (.inr l_70))))))))) (
    .pure (.done (.inl (t6, t7))))
noncomputable def law08_ParaSplits_T (t0 : List Int) (t1 : List Int) : Tr Bool :=
  .bnd law08_awake_F fun c_1 =>
  .br (!c_1) (
    .pure false) (
    .bnd (law08_Classes_F t1) fun c_2 =>
    .bnd (para_Split_F t0 c_2) fun c_3 =>
    .alt (loopW (fun s => (law08_ParaSplits_L7 s.1 s.2.1 s.2.2.1 s.2.2.2.1 s.2.2.2.2.1 s.2.2.2.2.2.1 s.2.2.2.2.2.2).run) (t0, c_2, if (c_2.length : Int) < (t0.length : Int) then (c_2.length : Int) else (t0.length : Int), 0, c_3, (c_3.length : Int), 0)) (fun l_71 =>
      .pure (l_71.2 == l_71.1)) (fun l_72 =>
      .pure l_72))
noncomputable def law08_ParaSplits_F (t0 : List Int) (t1 : List Int) : Option Bool := (law08_ParaSplits_T t0 t1).run
def law08_ParaSplits_L : List (Nat × LoopAnn) := [(12, { head := [.sv 0 false (.sl (.int .i32)), .srow 5 1000005 31 true (.int .u8), .sv 6 true (.int .i64), .sbox 9 1000009 30 true (.st (.pair (.int .i64) (.pair (.int .i64) (.int .i64)))), .sv 10 true (.int .i64), .srow 23 1000023 30 true (.st (.pair (.int .i64) (.pair (.int .i64) (.int .i64)))), .sv 24 true (.int .i64), .sv 25 true (.int .i64)], xid := 2, out := [.sv 0 false (.sl (.int .i32)), .srow 5 1000005 31 true (.int .u8), .sv 6 true (.int .i64), .sbox 9 1000009 30 true (.st (.pair (.int .i64) (.pair (.int .i64) (.int .i64)))), .srow 23 1000023 30 true (.st (.pair (.int .i64) (.pair (.int .i64) (.int .i64)))), .sv 24 true (.int .i64), .sv 25 true (.int .i64)], hasRet := true, res := [.sv 4 true .bool] }), (7, { head := [.sv 0 false (.sl (.int .i32)), .srow 5 1000005 31 true (.int .u8), .sv 6 true (.int .i64), .sv 7 true (.int .i64), .srow 23 1000023 30 true (.st (.pair (.int .i64) (.pair (.int .i64) (.int .i64)))), .sv 24 true (.int .i64), .sv 25 true (.int .i64)], xid := 0, out := [.sv 6 true (.int .i64), .sv 7 true (.int .i64)], hasRet := true, res := [.sv 4 true .bool] })]
noncomputable def law08_ParaSplits_C : List (Nat × Fun) := [(14, law08_awake_fun), (15, law08_Classes_fun), (16, para_Split_fun)]
noncomputable def law08_ParaSplits_fun : Fun := ⟨[.sl (.int .i32), .sl (.int .u8)], [.v .bool], fun x => law08_ParaSplits_F x.1 x.2.1⟩
theorem law08_ParaSplits_ev (x : Tys.I [.sl (.int .i32), .sl (.int .u8)]) : evFun G0 (fun f => olook f law08_ParaSplits_C) ⟨[]⟩ (fun i => olook i law08_ParaSplits_L) Try.f3 [.sl (.int .i32), .sl (.int .u8)] [.v .bool] x = law08_ParaSplits_T x.1 x.2.1 := by kernel_rfl
theorem law08_ParaSplits_ok : FunOk Try.prog 3 law08_ParaSplits_fun := evFun_ok mixed ctx0 (cons_calls law08_awake_ok (cons_calls law08_Classes_ok (cons_calls para_Split_ok (no_calls)))) Try.func3 (by kernel_rfl) _ (fun x => congrArg Tr.run (law08_ParaSplits_ev x)) (by kernel_rfl) (by kernel_rfl)
/-! ### boustrophedon/boustrophedonlaw08.ParaShort -/
noncomputable def law08_ParaShort_L5 (rs0 : List Int) (cs5 : List Int) (k6 : Int) : Tr (Lap (List Int × List Int × Int) (List Int × List Int)) :=
  .br (decide (k6 < (cs5.length : Int))) (
    .bnd (idx cs5 k6) fun x_3 =>
    .br (x_3 == 10) (
      .bnd (idx cs5 k6) fun x_4 =>
      .pure (.next (rs0, cs5.set (Int.toNat k6) 11, IntKind.i64.wrap (k6 + 1)))) (
      .pure (.next (rs0, cs5, IntKind.i64.wrap (k6 + 1))))) (
    .pure (.done (rs0, cs5)))
noncomputable def law08_ParaShort_T (rs0 : List Int) (ns1 : List Int) : Tr Bool :=
  .bnd law08_awake_F fun c_1 =>
  .br (!c_1) (
    .pure false) (
    .bnd (law08_Classes_F ns1) fun c_2 =>
    .bnd (loopW (fun s => (law08_ParaShort_L5 s.1 s.2.1 s.2.2).run) (rs0, c_2, 0)) fun l_5 =>
    .bnd (para_Split_F l_5.1 l_5.2) fun c_6 =>
    .br ((if (l_5.2.length : Int) < (l_5.1.length : Int) then (l_5.2.length : Int) else (l_5.1.length : Int)) == 0) (
      .br ((c_6.length : Int) == 0) (
        .pure true) (
        .br (decide ((if (l_5.2.length : Int) < (l_5.1.length : Int) then (l_5.2.length : Int) else (l_5.1.length : Int)) > 0)) (
          .br ((c_6.length : Int) == 1) (
            .bnd (idx c_6 0) fun x_7 =>
            .pure ((x_7.1 == 0) && ((x_7.2.1 == (if (l_5.2.length : Int) < (l_5.1.length : Int) then (l_5.2.length : Int) else (l_5.1.length : Int))) && (x_7.2.2 == 0)))) (
            .pure false)) (
          .pure false))) (
      .br (decide ((if (l_5.2.length : Int) < (l_5.1.length : Int) then (l_5.2.length : Int) else (l_5.1.length : Int)) > 0)) (
        .br ((c_6.length : Int) == 1) (
          .bnd (idx c_6 0) fun x_8 =>
          .pure ((x_8.1 == 0) && ((x_8.2.1 == (if (l_5.2.length : Int) < (l_5.1.length : Int) then (l_5.2.length : Int) else (l_5.1.length : Int))) && (x_8.2.2 == 0)))) (
          .pure false)) (
        .pure false)))
noncomputable def law08_ParaShort_F (rs0 : List Int) (ns1 : List Int) : Option Bool := (law08_ParaShort_T rs0 ns1).run
def law08_ParaShort_L : List (Nat × LoopAnn) := [(5, { head := [.sv 0 false (.sl (.int .i32)), .srow 5 1000005 31 true (.int .u8), .sv 6 true (.int .i64)], xid := 0, out := [.sv 0 false (.sl (.int .i32)), .srow 5 1000005 31 true (.int .u8)], hasRet := false, res := [] })]
noncomputable def law08_ParaShort_C : List (Nat × Fun) := [(14, law08_awake_fun), (15, law08_Classes_fun), (16, para_Split_fun)]
noncomputable def law08_ParaShort_fun : Fun := ⟨[.sl (.int .i32), .sl (.int .u8)], [.v .bool], fun x => law08_ParaShort_F x.1 x.2.1⟩
theorem law08_ParaShort_ev (x : Tys.I [.sl (.int .i32), .sl (.int .u8)]) : evFun G0 (fun f => olook f law08_ParaShort_C) ⟨[]⟩ (fun i => olook i law08_ParaShort_L) Try.f5 [.sl (.int .i32), .sl (.int .u8)] [.v .bool] x = law08_ParaShort_T x.1 x.2.1 := by kernel_rfl
theorem law08_ParaShort_ok : FunOk Try.prog 5 law08_ParaShort_fun := evFun_ok mixed ctx0 (cons_calls law08_awake_ok (cons_calls law08_Classes_ok (cons_calls para_Split_ok (no_calls)))) Try.func5 (by kernel_rfl) _ (fun x => congrArg Tr.run (law08_ParaShort_ev x)) (by kernel_rfl) (by kernel_rfl)
/-! ### boustrophedon/boustrophedonlaw08.ParaCount -/
noncomputable def law08_ParaCount_L6 (t3 : List Int) (t4 : List Int) (t16 : List Int) (t17 : Int) (t18 : Int) : Tr (Lap (List Int × List Int × List Int × Int × Int) (List Int × List Int)) :=
  .br (decide (t18 < t17)) (
    .bnd (idx t16 t18) fun x_2 =>
    .br ((x_2.tmod 3) == 0) (
      .br ((x_2.tmod 3) == 1) (
        .bnd (app 35184372088832 t3 ([97])) fun r_3 =>
        .br (97 == 97) (
          .bnd (app 140737488355328 t4 ([0])) fun r_4 =>
          .pure (.next (r_3, r_4, t16, t17, IntKind.i64.wrap (t18 + 1)))) (
          .bnd (app 140737488355328 t4 ([10])) fun r_5 =>
          .pure (.next (r_3, r_5, t16, t17, IntKind.i64.wrap (t18 + 1))))) (
        .bnd (app 35184372088832 t3 ([13])) fun r_6 =>
        .br (13 == 97) (
          .bnd (app 140737488355328 t4 ([0])) fun r_7 =>
          .pure (.next (r_6, r_7, t16, t17, IntKind.i64.wrap (t18 + 1)))) (
          .bnd (app 140737488355328 t4 ([10])) fun r_8 =>
          .pure (.next (r_6, r_8, t16, t17, IntKind.i64.wrap (t18 + 1)))))) (
      .br ((x_2.tmod 3) == 1) (
        .bnd (app 35184372088832 t3 ([97])) fun r_9 =>
        .br (97 == 97) (
          .bnd (app 140737488355328 t4 ([0])) fun r_10 =>
          .pure (.next (r_9, r_10, t16, t17, IntKind.i64.wrap (t18 + 1)))) (
          .bnd (app 140737488355328 t4 ([10])) fun r_11 =>
          .pure (.next (r_9, r_11, t16, t17, IntKind.i64.wrap (t18 + 1))))) (
        .bnd (app 35184372088832 t3 ([10])) fun r_12 =>
        .br (10 == 97) (
          .bnd (app 140737488355328 t4 ([0])) fun r_13 =>
          .pure (.next (r_12, r_13, t16, t17, IntKind.i64.wrap (t18 + 1)))) (
          .bnd (app 140737488355328 t4 ([10])) fun r_14 =>
          .pure (.next (r_12, r_14, t16, t17, IntKind.i64.wrap (t18 + 1))))))) (
    .pure (.done (t3, t4)))
noncomputable def law08_ParaCount_L21 (t3 : List Int) (t4 : List Int) (t9 : Int) (t40 : Int) (t41 : Int) : Tr (Lap (List Int × List Int × Int × Int × Int) (List Int × List Int × Int)) :=
  .br (decide (t41 < t40)) (
    .bnd (idx t4 t41) fun x_16 =>
    .br (x_16 == 10) (
      .br (decide (t41 > 0)) (
        .bnd (idx t3 t41) fun x_17 =>
        .br (x_17 == 10) (
          .bnd (idx t3 (IntKind.i64.wrap (t41 - 1))) fun x_18 =>
          .br (!(x_18 == 13)) (
            .pure (.next (t3, t4, IntKind.i64.wrap (t9 + 1), t40, IntKind.i64.wrap (t41 + 1)))) (
            .pure (.next (t3, t4, t9, t40, IntKind.i64.wrap (t41 + 1))))) (
          .pure (.next (t3, t4, IntKind.i64.wrap (t9 + 1), t40, IntKind.i64.wrap (t41 + 1))))) (
        .pure (.next (t3, t4, IntKind.i64.wrap (t9 + 1), t40, IntKind.i64.wrap (t41 + 1))))) (
      .pure (.next (t3, t4, t9, t40, IntKind.i64.wrap (t41 + 1))))) (
    .pure (.done (t3, t4, t9)))
noncomputable def law08_ParaCount_L28 (t9 : Int) (t11 : Int) (t74 : List (Int × Int × Int)) (t75 : Int) (t76 : Int) : Tr (Lap (Int × Int × (List (Int × Int × Int)) × Int × Int) (Int × Int)) :=
  .br (decide (t76 < t75)) (
    .bnd (idx t74 t76) fun x_21 =>
    .bnd (idx ([x_21]) 0) fun x_22 =>
    .br (decide (x_22.2.2 > 0)) (
      .pure (.next (t9, IntKind.i64.wrap (t11 + 1), t74, t75, IntKind.i64.wrap (t76 + 1)))) (
      .pure (.next (t9, t11, t74, t75, IntKind.i64.wrap (t76 + 1))))) (
    .pure (.done (t9, t11)))
noncomputable def law08_ParaCount_T (t0 : List Int) : Tr Bool :=
  .bnd law08_awake_F fun c_1 =>
  .br (!c_1) (
    .pure false) (
    .bnd (loopW (fun s => (law08_ParaCount_L6 s.1 s.2.1 s.2.2.1 s.2.2.2.1 s.2.2.2.2).run) ([], [], t0, (t0.length : Int), 0)) fun l_15 =>
    .bnd (loopW (fun s => (law08_ParaCount_L21 s.1 s.2.1 s.2.2.1 s.2.2.2.1 s.2.2.2.2).run) (l_15.1, l_15.2, 0, (l_15.1.length : Int), 0)) fun l_19 =>
    .bnd (para_Split_F l_19.1 l_19.2.1) fun c_20 =>
    .bnd (loopW (fun s => (law08_ParaCount_L28 s.1 s.2.1 s.2.2.1 s.2.2.2.1 s.2.2.2.2).run) (l_19.2.2, 0, c_20, (c_20.length : Int), 0)) fun l_23 =>
    .pure (l_23.2 == l_23.1))
noncomputable def law08_ParaCount_F (t0 : List Int) : Option Bool := (law08_ParaCount_T t0).run
def law08_ParaCount_L : List (Nat × LoopAnn) := [(6, { head := [.srow 3 1000003 21 true (.int .i32), .srow 4 1000004 31 true (.int .u8), .sv 16 false (.sl (.int .u8)), .sv 17 true (.int .i64), .sv 18 true (.int .i64)], xid := 0, out := [.srow 3 1000003 21 true (.int .i32), .srow 4 1000004 31 true (.int .u8)], hasRet := false, res := [] }), (21, { head := [.srow 3 1000003 21 true (.int .i32), .srow 4 1000004 31 true (.int .u8), .sv 9 true (.int .i64), .sv 40 true (.int .i64), .sv 41 true (.int .i64)], xid := 2, out := [.srow 3 1000003 21 true (.int .i32), .srow 4 1000004 31 true (.int .u8), .sv 9 true (.int .i64)], hasRet := false, res := [] }), (28, { head := [.sv 9 true (.int .i64), .sv 11 true (.int .i64), .srow 74 1000074 30 true (.st (.pair (.int .i64) (.pair (.int .i64) (.int .i64)))), .sv 75 true (.int .i64), .sv 76 true (.int .i64)], xid := 4, out := [.sv 9 true (.int .i64), .sv 11 true (.int .i64)], hasRet := false, res := [] })]
noncomputable def law08_ParaCount_C : List (Nat × Fun) := [(14, law08_awake_fun), (16, para_Split_fun)]
noncomputable def law08_ParaCount_fun : Fun := ⟨[.sl (.int .u8)], [.v .bool], fun x => law08_ParaCount_F x.1⟩
theorem law08_ParaCount_ev (x : Tys.I [.sl (.int .u8)]) : evFun G0 (fun f => olook f law08_ParaCount_C) ⟨[]⟩ (fun i => olook i law08_ParaCount_L) Try.f6 [.sl (.int .u8)] [.v .bool] x = law08_ParaCount_T x.1 := by kernel_rfl
theorem law08_ParaCount_ok : FunOk Try.prog 6 law08_ParaCount_fun := evFun_ok mixed ctx0 (cons_calls law08_awake_ok (cons_calls para_Split_ok (no_calls))) Try.func6 (by kernel_rfl) _ (fun x => congrArg Tr.run (law08_ParaCount_ev x)) (by kernel_rfl) (by kernel_rfl)
/-! ### boustrophedon/bidic.Isolate -/
noncomputable def bidic_Isolate_T (c0 : Int) : Tr Bool :=
  .br (c0 == 19) (
    .pure true) (
    .br (c0 == 20) (
      .pure true) (
      .pure (c0 == 21)))
noncomputable def bidic_Isolate_F (c0 : Int) : Option Bool := (bidic_Isolate_T c0).run
def bidic_Isolate_L : List (Nat × LoopAnn) := []
noncomputable def bidic_Isolate_C : List (Nat × Fun) := []
noncomputable def bidic_Isolate_fun : Fun := ⟨[.int .u8], [.v .bool], fun x => bidic_Isolate_F x.1⟩
theorem bidic_Isolate_ev (x : Tys.I [.int .u8]) : evFun G0 (fun f => olook f bidic_Isolate_C) ⟨[]⟩ (fun i => olook i bidic_Isolate_L) Try.f19 [.int .u8] [.v .bool] x = bidic_Isolate_T x.1 := by kernel_rfl
theorem bidic_Isolate_ok : FunOk Try.prog 19 bidic_Isolate_fun := evFun_ok mixed ctx0 (no_calls) Try.func19 (by kernel_rfl) _ (fun x => congrArg Tr.run (bidic_Isolate_ev x)) (by kernel_rfl) (by kernel_rfl)
/-! ### boustrophedon/boustrophedonlaw09.closes -/
noncomputable def law09_closes_L3 (cs0 : List Int) (n5 : Int) (k6 : Int) : Tr (Lap (List Int × Int × Int) (Sum Unit Int)) :=
  .br (decide (k6 < (cs0.length : Int))) (
    .bnd (idx cs0 k6) fun x_1 =>
    .bnd (bidic_Isolate_F x_1) fun c_2 =>
    .br c_2 (
      .bnd (idx cs0 k6) fun x_3 =>
      .br (x_3 == 22) (
        .br ((IntKind.i64.wrap ((IntKind.i64.wrap (n5 + 1)) - 1)) == 0) (
          .pure (.done (.inr k6))) (
          .pure (.next (cs0, IntKind.i64.wrap ((IntKind.i64.wrap (n5 + 1)) - 1), IntKind.i64.wrap (k6 + 1))))) (
        .br ((IntKind.i64.wrap (n5 + 1)) == 0) (
          .pure (.done (.inr k6))) (
          .pure (.next (cs0, IntKind.i64.wrap (n5 + 1), IntKind.i64.wrap (k6 + 1)))))) (
      .bnd (idx cs0 k6) fun x_4 =>
      .br (x_4 == 22) (
        .br ((IntKind.i64.wrap (n5 - 1)) == 0) (
          .pure (.done (.inr k6))) (
          .pure (.next (cs0, IntKind.i64.wrap (n5 - 1), IntKind.i64.wrap (k6 + 1))))) (
        .br (n5 == 0) (
          .pure (.done (.inr k6))) (
          .pure (.next (cs0, n5, IntKind.i64.wrap (k6 + 1))))))) (
    .pure (.done (.inl ())))
noncomputable def law09_closes_T (cs0 : List Int) (at1 : Int) : Tr Int :=
  .alt (loopW (fun s => (law09_closes_L3 s.1 s.2.1 s.2.2).run) (cs0, 0, at1)) (fun l_5 =>
    .pure (-1)) (fun l_6 =>
    .pure l_6)
noncomputable def law09_closes_F (cs0 : List Int) (at1 : Int) : Option Int := (law09_closes_T cs0 at1).run
def law09_closes_L : List (Nat × LoopAnn) := [(3, { head := [.sv 0 false (.sl (.int .u8)), .sv 5 true (.int .i64), .sv 6 false (.int .i64)], xid := 0, out := [], hasRet := true, res := [.sv 4 false (.int .i64)] })]
noncomputable def law09_closes_C : List (Nat × Fun) := [(19, bidic_Isolate_fun)]
noncomputable def law09_closes_fun : Fun := ⟨[.sl (.int .u8), .int .i64], [.v (.int .i64)], fun x => law09_closes_F x.1 x.2.1⟩
theorem law09_closes_ev (x : Tys.I [.sl (.int .u8), .int .i64]) : evFun G0 (fun f => olook f law09_closes_C) ⟨[]⟩ (fun i => olook i law09_closes_L) Try.f20 [.sl (.int .u8), .int .i64] [.v (.int .i64)] x = law09_closes_T x.1 x.2.1 := by kernel_rfl
theorem law09_closes_ok : FunOk Try.prog 20 law09_closes_fun := evFun_ok mixed ctx0 (cons_calls bidic_Isolate_ok (no_calls)) Try.func20 (by kernel_rfl) _ (fun x => congrArg Tr.run (law09_closes_ev x)) (by kernel_rfl) (by kernel_rfl)
/-! ### boustrophedon/bidic.Strong -/
noncomputable def bidic_Strong_T (c0 : Int) : Tr Bool :=
  .br (c0 == 0) (
    .pure true) (
    .br (c0 == 1) (
      .pure true) (
      .pure (c0 == 2)))
noncomputable def bidic_Strong_F (c0 : Int) : Option Bool := (bidic_Strong_T c0).run
def bidic_Strong_L : List (Nat × LoopAnn) := []
noncomputable def bidic_Strong_C : List (Nat × Fun) := []
noncomputable def bidic_Strong_fun : Fun := ⟨[.int .u8], [.v .bool], fun x => bidic_Strong_F x.1⟩
theorem bidic_Strong_ev (x : Tys.I [.int .u8]) : evFun G0 (fun f => olook f bidic_Strong_C) ⟨[]⟩ (fun i => olook i bidic_Strong_L) Try.f25 [.int .u8] [.v .bool] x = bidic_Strong_T x.1 := by kernel_rfl
theorem bidic_Strong_ok : FunOk Try.prog 25 bidic_Strong_fun := evFun_ok mixed ctx0 (no_calls) Try.func25 (by kernel_rfl) _ (fun x => congrArg Tr.run (bidic_Strong_ev x)) (by kernel_rfl) (by kernel_rfl)
/-! ### boustrophedon/base.strong -/
noncomputable def base_strong_T (c0 : Int) : Tr Int :=
  .br (c0 == 0) (
    .pure 0) (
    .pure 1)
noncomputable def base_strong_F (c0 : Int) : Option Int := (base_strong_T c0).run
def base_strong_L : List (Nat × LoopAnn) := []
noncomputable def base_strong_C : List (Nat × Fun) := []
noncomputable def base_strong_fun : Fun := ⟨[.int .u8], [.v (.int .i64)], fun x => base_strong_F x.1⟩
theorem base_strong_ev (x : Tys.I [.int .u8]) : evFun G0 (fun f => olook f base_strong_C) ⟨[]⟩ (fun i => olook i base_strong_L) Try.f28 [.int .u8] [.v (.int .i64)] x = base_strong_T x.1 := by kernel_rfl
theorem base_strong_ok : FunOk Try.prog 28 base_strong_fun := evFun_ok mixed ctx0 (no_calls) Try.func28 (by kernel_rfl) _ (fun x => congrArg Tr.run (base_strong_ev x)) (by kernel_rfl) (by kernel_rfl)
/-! ### boustrophedon/base.First -/
noncomputable def base_First_L3 (inside1 : Bool) (other2 : Int) (depth7 : Int) (t10 : List Int) (t11 : Int) (t12 : Int) : Tr (Lap (Bool × Int × Int × List Int × Int × Int) (Sum Int Int)) :=
  .br (decide (t12 < t11)) (
    .bnd (idx t10 t12) fun x_1 =>
    .bnd (bidic_Isolate_F x_1) fun c_2 =>
    .br c_2 (
      .pure (.next (inside1, other2, IntKind.i64.wrap (depth7 + 1), t10, t11, IntKind.i64.wrap (t12 + 1)))) (
      .br (x_1 == 22) (
        .br (decide (depth7 > 0)) (
          .pure (.next (inside1, other2, IntKind.i64.wrap (depth7 - 1), t10, t11, IntKind.i64.wrap (t12 + 1)))) (
          .br (x_1 == 22) (
            .br inside1 (
              .pure (.done (.inr other2))) (
              .bnd (bidic_Strong_F x_1) fun c_3 =>
              .br c_3 (
                .br (depth7 == 0) (
                  .bnd (base_strong_F x_1) fun c_4 =>
                  .pure (.done (.inr c_4))) (
                  .pure (.next (inside1, other2, depth7, t10, t11, IntKind.i64.wrap (t12 + 1))))) (
                .pure (.next (inside1, other2, depth7, t10, t11, IntKind.i64.wrap (t12 + 1)))))) (
            .bnd (bidic_Strong_F x_1) fun c_5 =>
            .br c_5 (
              .br (depth7 == 0) (
                .bnd (base_strong_F x_1) fun c_6 =>
                .pure (.done (.inr c_6))) (
                .pure (.next (inside1, other2, depth7, t10, t11, IntKind.i64.wrap (t12 + 1))))) (
              .pure (.next (inside1, other2, depth7, t10, t11, IntKind.i64.wrap (t12 + 1))))))) (
        .br (x_1 == 22) (
          .br inside1 (
            .pure (.done (.inr other2))) (
            .bnd (bidic_Strong_F x_1) fun c_7 =>
            .br c_7 (
              .br (depth7 == 0) (
                .bnd (base_strong_F x_1) fun c_8 =>
                .pure (.done (.inr c_8))) (
                .pure (.next (inside1, other2, depth7, t10, t11, IntKind.i64.wrap (t12 + 1))))) (
              .pure (.next (inside1, other2, depth7, t10, t11, IntKind.i64.wrap (t12 + 1)))))) (
          .bnd (bidic_Strong_F x_1) fun c_9 =>
          .br c_9 (
            .br (depth7 == 0) (
              .bnd (base_strong_F x_1) fun c_10 =>
              .pure (.done (.inr c_10))) (
              .pure (.next (inside1, other2, depth7, t10, t11, IntKind.i64.wrap (t12 + 1))))) (
            .pure (.next (inside1, other2, depth7, t10, t11, IntKind.i64.wrap (t12 + 1)))))))) (
    .pure (.done (.inl other2)))
noncomputable def base_First_T (cs0 : List Int) (inside1 : Bool) (other2 : Int) : Tr Int :=
  .alt (loopW (fun s => (base_First_L3 s.1 s.2.1 s.2.2.1 s.2.2.2.1 s.2.2.2.2.1 s.2.2.2.2.2).run) (inside1, other2, 0, cs0, (cs0.length : Int), 0)) (fun l_11 =>
    .pure l_11) (fun l_12 =>
    .pure l_12)
noncomputable def base_First_F (cs0 : List Int) (inside1 : Bool) (other2 : Int) : Option Int := (base_First_T cs0 inside1 other2).run
def base_First_L : List (Nat × LoopAnn) := [(3, { head := [.sv 1 false .bool, .sv 2 false (.int .i64), .sv 7 true (.int .i64), .sv 10 false (.sl (.int .u8)), .sv 11 true (.int .i64), .sv 12 true (.int .i64)], xid := 0, out := [.sv 2 false (.int .i64)], hasRet := true, res := [.sv 6 false (.int .i64)] })]
noncomputable def base_First_C : List (Nat × Fun) := [(19, bidic_Isolate_fun), (25, bidic_Strong_fun), (28, base_strong_fun)]
noncomputable def base_First_fun : Fun := ⟨[.sl (.int .u8), .bool, .int .i64], [.v (.int .i64)], fun x => base_First_F x.1 x.2.1 x.2.2.1⟩
theorem base_First_ev (x : Tys.I [.sl (.int .u8), .bool, .int .i64]) : evFun G0 (fun f => olook f base_First_C) ⟨[]⟩ (fun i => olook i base_First_L) Try.f22 [.sl (.int .u8), .bool, .int .i64] [.v (.int .i64)] x = base_First_T x.1 x.2.1 x.2.2.1 := by kernel_rfl
theorem base_First_ok : FunOk Try.prog 22 base_First_fun := evFun_ok mixed ctx0 (cons_calls bidic_Isolate_ok (cons_calls bidic_Strong_ok (cons_calls base_strong_ok (no_calls)))) Try.func22 (by kernel_rfl) _ (fun x => congrArg Tr.run (base_First_ev x)) (by kernel_rfl) (by kernel_rfl)
/-! ### boustrophedon/boustrophedonlaw10.awake -/
noncomputable def law10_awake_T : Tr Bool :=
  .bnd (base_First_F ([13, 19, 0, 22, 1]) false 7) fun c_1 =>
  .bnd (base_First_F ([20, 1]) false 7) fun c_2 =>
  .bnd (base_First_F ([13, 22, 1]) true 7) fun c_3 =>
  .br (c_1 == 1) (
    .br (c_2 == 7) (
      .pure (c_3 == 7)) (
      .pure false)) (
    .pure false)
noncomputable def law10_awake_F : Option Bool := (law10_awake_T).run
def law10_awake_L : List (Nat × LoopAnn) := []
noncomputable def law10_awake_C : List (Nat × Fun) := [(22, base_First_fun)]
noncomputable def law10_awake_fun : Fun := ⟨[], [.v .bool], fun _ => law10_awake_F⟩
theorem law10_awake_ev (x : Tys.I []) : evFun G0 (fun f => olook f law10_awake_C) ⟨[]⟩ (fun i => olook i law10_awake_L) Try.f21 [] [.v .bool] x = law10_awake_T := by kernel_rfl
theorem law10_awake_ok : FunOk Try.prog 21 law10_awake_fun := evFun_ok mixed ctx0 (cons_calls base_First_ok (no_calls)) Try.func21 (by kernel_rfl) _ (fun x => congrArg Tr.run (law10_awake_ev x)) (by kernel_rfl) (by kernel_rfl)
/-! ### boustrophedon/boustrophedonref10.beginning -/
noncomputable def ref10_beginning_T (c0 : Int) : Tr Bool :=
  .br (decide (c0 ≥ 19)) (
    .pure (decide (c0 ≤ 21))) (
    .pure false)
noncomputable def ref10_beginning_F (c0 : Int) : Option Bool := (ref10_beginning_T c0).run
def ref10_beginning_L : List (Nat × LoopAnn) := []
noncomputable def ref10_beginning_C : List (Nat × Fun) := []
noncomputable def ref10_beginning_fun : Fun := ⟨[.int .i64], [.v .bool], fun x => ref10_beginning_F x.1⟩
theorem ref10_beginning_ev (x : Tys.I [.int .i64]) : evFun G0 (fun f => olook f ref10_beginning_C) ⟨[]⟩ (fun i => olook i ref10_beginning_L) Try.f29 [.int .i64] [.v .bool] x = ref10_beginning_T x.1 := by kernel_rfl
theorem ref10_beginning_ok : FunOk Try.prog 29 ref10_beginning_fun := evFun_ok mixed ctx0 (no_calls) Try.func29 (by kernel_rfl) _ (fun x => congrArg Tr.run (ref10_beginning_ev x)) (by kernel_rfl) (by kernel_rfl)
/-! ### boustrophedon/boustrophedonref10.Close -/
noncomputable def ref10_Close_L3 (cs0 : List Int) (n5 : Int) (k6 : Int) : Tr (Lap (List Int × Int × Int) (Sum (List Int) Int)) :=
  .br (decide (k6 < (cs0.length : Int))) (
    .bnd (idx cs0 k6) fun x_1 =>
    .bnd (ref10_beginning_F x_1) fun c_2 =>
    .br c_2 (
      .bnd (idx cs0 k6) fun x_3 =>
      .br (x_3 == 22) (
        .br ((IntKind.i64.wrap ((IntKind.i64.wrap (n5 + 1)) - 1)) == 0) (
          .pure (.done (.inr k6))) (
          .pure (.next (cs0, IntKind.i64.wrap ((IntKind.i64.wrap (n5 + 1)) - 1), IntKind.i64.wrap (k6 + 1))))) (
        .pure (.next (cs0, IntKind.i64.wrap (n5 + 1), IntKind.i64.wrap (k6 + 1))))) (
      .bnd (idx cs0 k6) fun x_4 =>
      .br (x_4 == 22) (
        .br ((IntKind.i64.wrap (n5 - 1)) == 0) (
          .pure (.done (.inr k6))) (
          .pure (.next (cs0, IntKind.i64.wrap (n5 - 1), IntKind.i64.wrap (k6 + 1))))) (
        .pure (.next (cs0, n5, IntKind.i64.wrap (k6 + 1)))))) (
    .pure (.done (.inl cs0)))
noncomputable def ref10_Close_T (cs0 : List Int) (at1 : Int) : Tr Int :=
  .alt (loopW (fun s => (ref10_Close_L3 s.1 s.2.1 s.2.2).run) (cs0, 0, at1)) (fun l_5 =>
    .pure (l_5.length : Int)) (fun l_6 =>
    .pure l_6)
noncomputable def ref10_Close_F (cs0 : List Int) (at1 : Int) : Option Int := (ref10_Close_T cs0 at1).run
def ref10_Close_L : List (Nat × LoopAnn) := [(3, { head := [.sv 0 false (.sl (.int .i64)), .sv 5 true (.int .i64), .sv 6 false (.int .i64)], xid := 0, out := [.sv 0 false (.sl (.int .i64))], hasRet := true, res := [.sv 4 false (.int .i64)] })]
noncomputable def ref10_Close_C : List (Nat × Fun) := [(29, ref10_beginning_fun)]
noncomputable def ref10_Close_fun : Fun := ⟨[.sl (.int .i64), .int .i64], [.v (.int .i64)], fun x => ref10_Close_F x.1 x.2.1⟩
theorem ref10_Close_ev (x : Tys.I [.sl (.int .i64), .int .i64]) : evFun G0 (fun f => olook f ref10_Close_C) ⟨[]⟩ (fun i => olook i ref10_Close_L) Try.f30 [.sl (.int .i64), .int .i64] [.v (.int .i64)] x = ref10_Close_T x.1 x.2.1 := by kernel_rfl
theorem ref10_Close_ok : FunOk Try.prog 30 ref10_Close_fun := evFun_ok mixed ctx0 (cons_calls ref10_beginning_ok (no_calls)) Try.func30 (by kernel_rfl) _ (fun x => congrArg Tr.run (ref10_Close_ev x)) (by kernel_rfl) (by kernel_rfl)
/-! ### boustrophedon/boustrophedonref10.First -/
noncomputable def ref10_First_L2 (cs0 : List Int) (inside1 : Bool) (other2 : Int) (k7 : Int) : Tr (Lap (List Int × Bool × Int × Int) (Sum Int Int)) :=
  .br (decide (k7 < (cs0.length : Int))) (
    .bnd (idx cs0 k7) fun x_1 =>
    .bnd (ref10_beginning_F x_1) fun c_2 =>
    .br c_2 (
      .bnd (ref10_Close_F cs0 k7) fun c_3 =>
      .pure (.next (cs0, inside1, other2, IntKind.i64.wrap (c_3 + 1)))) (
      .bnd (idx cs0 k7) fun x_4 =>
      .br (x_4 == 22) (
        .br inside1 (
          .pure (.done (.inr other2))) (
          .bnd (idx cs0 k7) fun x_5 =>
          .br (x_5 == 0) (
            .pure (.done (.inr 0))) (
            .bnd (idx cs0 k7) fun x_6 =>
            .br (x_6 == 1) (
              .pure (.done (.inr 1))) (
              .bnd (idx cs0 k7) fun x_7 =>
              .br (x_7 == 2) (
                .pure (.done (.inr 1))) (
                .pure (.next (cs0, inside1, other2, IntKind.i64.wrap (k7 + 1)))))))) (
        .bnd (idx cs0 k7) fun x_8 =>
        .br (x_8 == 0) (
          .pure (.done (.inr 0))) (
          .bnd (idx cs0 k7) fun x_9 =>
          .br (x_9 == 1) (
            .pure (.done (.inr 1))) (
            .bnd (idx cs0 k7) fun x_10 =>
            .br (x_10 == 2) (
              .pure (.done (.inr 1))) (
              .pure (.next (cs0, inside1, other2, IntKind.i64.wrap (k7 + 1))))))))) (
    .pure (.done (.inl other2)))
noncomputable def ref10_First_T (cs0 : List Int) (inside1 : Bool) (other2 : Int) : Tr Int :=
  .alt (loopW (fun s => (ref10_First_L2 s.1 s.2.1 s.2.2.1 s.2.2.2).run) (cs0, inside1, other2, 0)) (fun l_11 =>
    .pure l_11) (fun l_12 =>
    .pure l_12)
noncomputable def ref10_First_F (cs0 : List Int) (inside1 : Bool) (other2 : Int) : Option Int := (ref10_First_T cs0 inside1 other2).run
def ref10_First_L : List (Nat × LoopAnn) := [(2, { head := [.sv 0 false (.sl (.int .i64)), .sv 1 false .bool, .sv 2 false (.int .i64), .sv 7 true (.int .i64)], xid := 0, out := [.sv 2 false (.int .i64)], hasRet := true, res := [.sv 6 false (.int .i64)] })]
noncomputable def ref10_First_C : List (Nat × Fun) := [(29, ref10_beginning_fun), (30, ref10_Close_fun)]
noncomputable def ref10_First_fun : Fun := ⟨[.sl (.int .i64), .bool, .int .i64], [.v (.int .i64)], fun x => ref10_First_F x.1 x.2.1 x.2.2.1⟩
theorem ref10_First_ev (x : Tys.I [.sl (.int .i64), .bool, .int .i64]) : evFun G0 (fun f => olook f ref10_First_C) ⟨[]⟩ (fun i => olook i ref10_First_L) Try.f23 [.sl (.int .i64), .bool, .int .i64] [.v (.int .i64)] x = ref10_First_T x.1 x.2.1 x.2.2.1 := by kernel_rfl
theorem ref10_First_ok : FunOk Try.prog 23 ref10_First_fun := evFun_ok mixed ctx0 (cons_calls ref10_beginning_ok (cons_calls ref10_Close_ok (no_calls))) Try.func23 (by kernel_rfl) _ (fun x => congrArg Tr.run (ref10_First_ev x)) (by kernel_rfl) (by kernel_rfl)
/-! ### boustrophedon/boustrophedonlaw10.Ints -/
noncomputable def law10_Ints_L3 (out3 : List Int) (t6 : List Int) (t7 : Int) (t8 : Int) : Tr (Lap (List Int × List Int × Int × Int) (List Int)) :=
  .br (decide (t8 < t7)) (
    .bnd (idx t6 t8) fun x_1 =>
    .bnd (app 17592186044416 out3 ([IntKind.i64.wrap x_1])) fun r_2 =>
    .pure (.next (r_2, t6, t7, IntKind.i64.wrap (t8 + 1)))) (
    .pure (.done out3))
noncomputable def law10_Ints_T (cs0 : List Int) : Tr (List Int) :=
  .bnd (loopW (fun s => (law10_Ints_L3 s.1 s.2.1 s.2.2.1 s.2.2.2).run) ([], cs0, (cs0.length : Int), 0)) fun l_3 =>
  .pure l_3
noncomputable def law10_Ints_F (cs0 : List Int) : Option (List Int) := (law10_Ints_T cs0).run
def law10_Ints_L : List (Nat × LoopAnn) := [(3, { head := [.srow 3 1000003 3 true (.int .i64), .sv 6 false (.sl (.int .u8)), .sv 7 true (.int .i64), .sv 8 true (.int .i64)], xid := 0, out := [.srow 3 1000003 3 true (.int .i64)], hasRet := false, res := [] })]
noncomputable def law10_Ints_C : List (Nat × Fun) := []
noncomputable def law10_Ints_fun : Fun := ⟨[.sl (.int .u8)], [.row 3 (.int .i64)], fun x => law10_Ints_F x.1⟩
theorem law10_Ints_ev (x : Tys.I [.sl (.int .u8)]) : evFun G0 (fun f => olook f law10_Ints_C) ⟨[]⟩ (fun i => olook i law10_Ints_L) Try.f24 [.sl (.int .u8)] [.row 3 (.int .i64)] x = law10_Ints_T x.1 := by kernel_rfl
theorem law10_Ints_ok : FunOk Try.prog 24 law10_Ints_fun := evFun_ok mixed ctx0 (no_calls) Try.func24 (by kernel_rfl) _ (fun x => congrArg Tr.run (law10_Ints_ev x)) (by kernel_rfl) (by kernel_rfl)
/-! ### boustrophedon/boustrophedonlaw10.BaseFirst -/
noncomputable def law10_BaseFirst_T (ns0 : List Int) (inside1 : Bool) (other2 : Int) : Tr Bool :=
  .bnd law10_awake_F fun c_1 =>
  .br (!c_1) (
    .pure false) (
    .bnd (law08_Classes_F ns0) fun c_2 =>
    .bnd (base_First_F c_2 inside1 other2) fun c_3 =>
    .bnd (law10_Ints_F c_2) fun c_4 =>
    .bnd (ref10_First_F c_4 inside1 other2) fun c_5 =>
    .pure (c_3 == c_5))
noncomputable def law10_BaseFirst_F (ns0 : List Int) (inside1 : Bool) (other2 : Int) : Option Bool := (law10_BaseFirst_T ns0 inside1 other2).run
def law10_BaseFirst_L : List (Nat × LoopAnn) := []
noncomputable def law10_BaseFirst_C : List (Nat × Fun) := [(21, law10_awake_fun), (15, law08_Classes_fun), (22, base_First_fun), (24, law10_Ints_fun), (23, ref10_First_fun)]
noncomputable def law10_BaseFirst_fun : Fun := ⟨[.sl (.int .u8), .bool, .int .i64], [.v .bool], fun x => law10_BaseFirst_F x.1 x.2.1 x.2.2.1⟩
theorem law10_BaseFirst_ev (x : Tys.I [.sl (.int .u8), .bool, .int .i64]) : evFun G0 (fun f => olook f law10_BaseFirst_C) ⟨[]⟩ (fun i => olook i law10_BaseFirst_L) Try.f11 [.sl (.int .u8), .bool, .int .i64] [.v .bool] x = law10_BaseFirst_T x.1 x.2.1 x.2.2.1 := by kernel_rfl
theorem law10_BaseFirst_ok : FunOk Try.prog 11 law10_BaseFirst_fun := evFun_ok mixed ctx0 (cons_calls law10_awake_ok (cons_calls law08_Classes_ok (cons_calls base_First_ok (cons_calls law10_Ints_ok (cons_calls ref10_First_ok (no_calls)))))) Try.func11 (by kernel_rfl) _ (fun x => congrArg Tr.run (law10_BaseFirst_ev x)) (by kernel_rfl) (by kernel_rfl)
/-! ### boustrophedon/boustrophedonlaw10.BaseSkips -/
noncomputable def law10_BaseSkips_L6 (t2 : Int) (t3 : Int) (t9 : List Int) (t10 : List Int) (t20 : List Int) (t21 : Int) (t22 : Int) : Tr (Lap (Int × Int × List Int × List Int × List Int × Int × Int) (Int × Int × List Int × List Int)) :=
  .br (decide (t22 < t21)) (
    .bnd (idx t20 t22) fun x_4 =>
    .bnd (bidic_Isolate_F x_4) fun c_5 =>
    .br (!c_5) (
      .br (x_4 != 22) (
        .bnd (app 140737488355328 t10 ([x_4])) fun r_6 =>
        .pure (.next (t2, t3, t9, r_6, t20, t21, IntKind.i64.wrap (t22 + 1)))) (
        .pure (.next (t2, t3, t9, t10, t20, t21, IntKind.i64.wrap (t22 + 1))))) (
      .pure (.next (t2, t3, t9, t10, t20, t21, IntKind.i64.wrap (t22 + 1))))) (
    .pure (.done (t2, t3, t9, t10)))
noncomputable def law10_BaseSkips_T (t0 : List Int) (t1 : List Int) (t2 : Int) (t3 : Int) : Tr Bool :=
  .bnd law10_awake_F fun c_1 =>
  .br (!c_1) (
    .pure false) (
    .bnd (law08_Classes_F t0) fun c_2 =>
    .bnd (law08_Classes_F t1) fun c_3 =>
    .bnd (loopW (fun s => (law10_BaseSkips_L6 s.1 s.2.1 s.2.2.1 s.2.2.2.1 s.2.2.2.2.1 s.2.2.2.2.2.1 s.2.2.2.2.2.2).run) (t2, t3, c_2, [], c_3, (c_3.length : Int), 0)) fun l_7 =>
    .bnd (app 140737488355328 ([IntKind.u8.wrap (19 + (l_7.1.tmod 3))]) l_7.2.2.2) fun r_8 =>
    .bnd (app 140737488355328 r_8 ([22])) fun r_9 =>
    .bnd (app 140737488355328 r_9 l_7.2.2.1) fun r_10 =>
    .bnd (app 140737488355328 ([2]) l_7.2.2.1) fun r_11 =>
    .bnd (base_First_F r_10 false l_7.2.1) fun c_12 =>
    .bnd (base_First_F l_7.2.2.1 false l_7.2.1) fun c_13 =>
    .br (c_12 == c_13) (
      .bnd (base_First_F r_11 ((l_7.1.tmod 2) == 0) l_7.2.1) fun c_14 =>
      .pure (c_14 == 1)) (
      .pure false))
noncomputable def law10_BaseSkips_F (t0 : List Int) (t1 : List Int) (t2 : Int) (t3 : Int) : Option Bool := (law10_BaseSkips_T t0 t1 t2 t3).run
def law10_BaseSkips_L : List (Nat × LoopAnn) := [(6, { head := [.sv 2 false (.int .u8), .sv 3 false (.int .i64), .srow 9 1000009 31 true (.int .u8), .srow 10 1000010 31 true (.int .u8), .srow 20 1000020 31 true (.int .u8), .sv 21 true (.int .i64), .sv 22 true (.int .i64)], xid := 0, out := [.sv 2 false (.int .u8), .sv 3 false (.int .i64), .srow 9 1000009 31 true (.int .u8), .srow 10 1000010 31 true (.int .u8)], hasRet := false, res := [] })]
noncomputable def law10_BaseSkips_C : List (Nat × Fun) := [(21, law10_awake_fun), (15, law08_Classes_fun), (19, bidic_Isolate_fun), (22, base_First_fun)]
noncomputable def law10_BaseSkips_fun : Fun := ⟨[.sl (.int .u8), .sl (.int .u8), .int .u8, .int .i64], [.v .bool], fun x => law10_BaseSkips_F x.1 x.2.1 x.2.2.1 x.2.2.2.1⟩
theorem law10_BaseSkips_ev (x : Tys.I [.sl (.int .u8), .sl (.int .u8), .int .u8, .int .i64]) : evFun G0 (fun f => olook f law10_BaseSkips_C) ⟨[]⟩ (fun i => olook i law10_BaseSkips_L) Try.f12 [.sl (.int .u8), .sl (.int .u8), .int .u8, .int .i64] [.v .bool] x = law10_BaseSkips_T x.1 x.2.1 x.2.2.1 x.2.2.2.1 := by kernel_rfl
theorem law10_BaseSkips_ok : FunOk Try.prog 12 law10_BaseSkips_fun := evFun_ok mixed ctx0 (cons_calls law10_awake_ok (cons_calls law08_Classes_ok (cons_calls bidic_Isolate_ok (cons_calls base_First_ok (no_calls))))) Try.func12 (by kernel_rfl) _ (fun x => congrArg Tr.run (law10_BaseSkips_ev x)) (by kernel_rfl) (by kernel_rfl)
end Go.Proofs.Ytfljkcfahhkfbaa
