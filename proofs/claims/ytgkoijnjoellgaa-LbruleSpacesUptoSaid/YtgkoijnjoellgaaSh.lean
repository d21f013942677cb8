/-
  The plain readings of the functions of this seat, by program; each is tied to the loaded function.
-/
import Derived.Test.YtgkoijnjoellgaaEvErr
import Derived.Test.YtgkoijnjoellgaaChecked
namespace Go.Proofs.Ytgkoijnjoellgaa
set_option maxRecDepth 100000
set_option linter.unusedVariables false

def G0 : Ctx := { ty := [(3, .int .i64), (4, .bool), (5, .int .u8), (24, .sl (.int .u8)), (31, .sl (.int .i64)), (38, .sl (.st (.pair (.int .i64) (.pair (.int .i64) (.pair (.int .u8) .bool))))), (40, .sl (.int .u8)), (43, .sl (.int .i64)), (48, .int .u8), (50, .st (.pair (.int .i64) (.pair (.int .i64) (.pair (.int .u8) .bool)))), (52, .int .i64), (61, .st (.pair (.int .u8) (.pair (.int .u8) (.pair (.int .u8) (.pair .bool (.pair .bool (.pair .bool .bool)))))))], sls := [(24, ⟨5, .int .u8, 140737488355328⟩), (31, ⟨3, .int .i64, 17592186044416⟩), (38, ⟨50, .st (.pair (.int .i64) (.pair (.int .i64) (.pair (.int .u8) .bool))), 5864062014805⟩), (40, ⟨48, .int .u8, 140737488355328⟩), (43, ⟨52, .int .i64, 17592186044416⟩)], eqs := [], enos := [] }
theorem mixed : Try.prog.follows .mixedOrders = true := by kernel_rfl
theorem ctx0 : CtxOk Try.prog G0 := ctx_ok (by kernel_rfl)
theorem no_calls {Λ : List Nat} : ∀ f fa, olook f ([] : List (Nat × Callee)) = some fa → CalleeOk Try.prog f fa ∧ (fa.isPlain = false → inList f Λ = true) := fun _ _ h => by cases h
theorem cons_calls {Λ : List Nat} {k : Nat} {fb : Callee} {l : List (Nat × Callee)} (h : CalleeOk Try.prog k fb) (hi : fb.isPlain = false → inList k Λ = true) (hl : ∀ f fa, olook f l = some fa → CalleeOk Try.prog f fa ∧ (fa.isPlain = false → inList f Λ = true)) : ∀ f fa, olook f ((k, fb) :: l) = some fa → CalleeOk Try.prog f fa ∧ (fa.isPlain = false → inList f Λ = true) := by
  intro f fa hf
  rw [olook_cons] at hf
  split at hf
  · rename_i e; subst e; cases hf; exact ⟨h, hi⟩
  · exact hl f fa hf

/-! ### boustrophedon/boustrophedonlaw20.are -/
noncomputable def law20_are_L4 (s0 : List Int) (want1 : List Int) (k5 : Int) : Tr (Lap (List Int × List Int × Int) (Sum Unit Bool)) :=
  .br (decide (k5 < (s0.length : Int))) (
    .bnd (idx s0 k5) fun x_1 =>
    .bnd (idx want1 k5) fun x_2 =>
    .br (x_1 != x_2) (
      .pure (.done (.inr false))) (
      .pure (.next (s0, want1, IntKind.i64.wrap (k5 + 1))))) (
    .pure (.done (.inl ())))
noncomputable def law20_are_T (s0 : List Int) (want1 : List Int) : Tr Bool :=
  .br ((s0.length : Int) != (want1.length : Int)) (
    .pure false) (
    .alt (loopW (fun s => (law20_are_L4 s.1 s.2.1 s.2.2).run) (s0, want1, 0)) (fun l_3 =>
      .pure true) (fun l_4 =>
      .pure l_4))
noncomputable def law20_are_F (s0 : List Int) (want1 : List Int) : Option Bool := (law20_are_T s0 want1).run
def law20_are_L : List (Nat × LoopAnn) := [(4, { head := [.sv 0 false (.sl (.int .i64)), .sv 1 false (.sl (.int .i64)), .sv 5 true (.int .i64)], xid := 0, out := [], hasRet := true, res := [.sv 4 true .bool] })]
noncomputable def law20_are_C : List (Nat × Callee) := []
noncomputable def law20_are_fun : Fun := ⟨[.sl (.int .i64), .sl (.int .i64)], [.v .bool], fun x => law20_are_F x.1 x.2.1⟩
theorem law20_are_ev (x : Tys.I [.sl (.int .i64), .sl (.int .i64)]) : evFun G0 (fun f => olook f law20_are_C) ⟨[], [], [], [], []⟩ (fun i => olook i law20_are_L) Try.f25 [.sl (.int .i64), .sl (.int .i64)] [.v .bool] x = law20_are_T x.1 x.2.1 := by kernel_rfl
theorem law20_are_ok : FunOk Try.prog 25 law20_are_fun := evFun_ok mixed ctx0 (no_calls) Try.func25 (by kernel_rfl) _ (fun x => congrArg Tr.run (law20_are_ev x)) (by kernel_rfl) (by kernel_rfl)
/-! ### boustrophedon/lbrule.ends -/
noncomputable def lbrule_ends_T (c0 : Int) : Tr Bool :=
  .br (c0 == 5) (
    .pure true) (
    .br (c0 == 6) (
      .pure true) (
      .br (c0 == 7) (
        .pure true) (
        .pure (c0 == 8))))
noncomputable def lbrule_ends_F (c0 : Int) : Option Bool := (lbrule_ends_T c0).run
def lbrule_ends_L : List (Nat × LoopAnn) := []
noncomputable def lbrule_ends_C : List (Nat × Callee) := []
noncomputable def lbrule_ends_fun : Fun := ⟨[.int .u8], [.v .bool], fun x => lbrule_ends_F x.1⟩
theorem lbrule_ends_ev (x : Tys.I [.int .u8]) : evFun G0 (fun f => olook f lbrule_ends_C) ⟨[], [], [], [], []⟩ (fun i => olook i lbrule_ends_L) Try.f40 [.int .u8] [.v .bool] x = lbrule_ends_T x.1 := by kernel_rfl
theorem lbrule_ends_ok : FunOk Try.prog 40 lbrule_ends_fun := evFun_ok mixed ctx0 (no_calls) Try.func40 (by kernel_rfl) _ (fun x => congrArg Tr.run (lbrule_ends_ev x)) (by kernel_rfl) (by kernel_rfl)
/-! ### (*boustrophedon/lbrule.past).glued -/
noncomputable def lbrule_past_glued_T (p0 : Int × Int × Int × Bool × Bool × Bool × Bool) (c1 : Int) : Tr ((Int × Int × Int × Bool × Bool × Bool × Bool) × Bool) :=
  .bnd (idx ([p0]) 0) fun x_1 =>
  .br (c1 == 12) (
    .br (x_1.1 != 9) (
      .br (x_1.1 != 14) (
        .pure (p0, x_1.1 != 17)) (
        .pure (p0, false))) (
      .pure (p0, false))) (
    .br (c1 == 11) (
      .pure (p0, true)) (
      .br (x_1.1 == 11) (
        .pure (p0, true)) (
        .pure (p0, x_1.1 == 12))))
noncomputable def lbrule_past_glued_F (p0 : Int × Int × Int × Bool × Bool × Bool × Bool) (c1 : Int) : Option ((Int × Int × Int × Bool × Bool × Bool × Bool) × Bool) := (lbrule_past_glued_T p0 c1).run
def lbrule_past_glued_L : List (Nat × LoopAnn) := []
noncomputable def lbrule_past_glued_C : List (Nat × Callee) := []
noncomputable def lbrule_past_glued_fun : BFun := ⟨61, (.st (.pair (.int .u8) (.pair (.int .u8) (.pair (.int .u8) (.pair .bool (.pair .bool (.pair .bool .bool))))))), [.int .u8], [.v .bool], fun s x => lbrule_past_glued_F s x.1⟩
theorem lbrule_past_glued_ev (s : Int × Int × Int × Bool × Bool × Bool × Bool) (x : Tys.I [.int .u8]) : evFunB G0 (fun f => olook f lbrule_past_glued_C) ⟨[], [], [], [], []⟩ (fun i => olook i lbrule_past_glued_L) Try.f41 61 (.st (.pair (.int .u8) (.pair (.int .u8) (.pair (.int .u8) (.pair .bool (.pair .bool (.pair .bool .bool))))))) [.int .u8] [.v .bool] s x = lbrule_past_glued_T s x.1 := by kernel_rfl
theorem lbrule_past_glued_ok : BoxOk Try.prog 41 lbrule_past_glued_fun := evFunB_ok mixed ctx0 (no_calls) Try.func41 (by kernel_rfl) rfl _ (fun s x => congrArg Tr.run (lbrule_past_glued_ev s x)) (by kernel_rfl)
/-! ### (*boustrophedon/lbrule.past).spaced -/
noncomputable def lbrule_past_spaced_T (p0 : Int × Int × Int × Bool × Bool × Bool × Bool) (c1 : Int) : Tr ((Int × Int × Int × Bool × Bool × Bool × Bool) × Bool) :=
  .br (c1 == 19) (
    .pure (p0, true)) (
    .br (c1 == 20) (
      .pure (p0, true)) (
      .br (c1 == 23) (
        .pure (p0, true)) (
        .br (c1 == 25) (
          .pure (p0, true)) (
          .br (c1 == 26) (
            .pure (p0, true)) (
            .bnd (idx ([p0]) 0) fun x_1 =>
            .br (x_1.2.2.1 == 21) (
              .pure (p0, true)) (
              .br (c1 == 21) (
                .bnd (idx ([p0]) 0) fun x_2 =>
                .pure (p0, x_2.2.2.1 == 22)) (
                .br (c1 == 18) (
                  .bnd (idx ([p0]) 0) fun x_3 =>
                  .br (x_3.2.2.1 == 19) (
                    .pure (p0, true)) (
                    .bnd (idx ([p0]) 0) fun x_4 =>
                    .pure (p0, x_4.2.2.1 == 20))) (
                  .br (c1 == 16) (
                    .bnd (idx ([p0]) 0) fun x_5 =>
                    .pure (p0, x_5.2.2.1 == 16)) (
                    .pure (p0, false))))))))))
noncomputable def lbrule_past_spaced_F (p0 : Int × Int × Int × Bool × Bool × Bool × Bool) (c1 : Int) : Option ((Int × Int × Int × Bool × Bool × Bool × Bool) × Bool) := (lbrule_past_spaced_T p0 c1).run
def lbrule_past_spaced_L : List (Nat × LoopAnn) := []
noncomputable def lbrule_past_spaced_C : List (Nat × Callee) := []
noncomputable def lbrule_past_spaced_fun : BFun := ⟨61, (.st (.pair (.int .u8) (.pair (.int .u8) (.pair (.int .u8) (.pair .bool (.pair .bool (.pair .bool .bool))))))), [.int .u8], [.v .bool], fun s x => lbrule_past_spaced_F s x.1⟩
theorem lbrule_past_spaced_ev (s : Int × Int × Int × Bool × Bool × Bool × Bool) (x : Tys.I [.int .u8]) : evFunB G0 (fun f => olook f lbrule_past_spaced_C) ⟨[], [], [], [], []⟩ (fun i => olook i lbrule_past_spaced_L) Try.f42 61 (.st (.pair (.int .u8) (.pair (.int .u8) (.pair (.int .u8) (.pair .bool (.pair .bool (.pair .bool .bool))))))) [.int .u8] [.v .bool] s x = lbrule_past_spaced_T s x.1 := by kernel_rfl
theorem lbrule_past_spaced_ok : BoxOk Try.prog 42 lbrule_past_spaced_fun := evFunB_ok mixed ctx0 (no_calls) Try.func42 (by kernel_rfl) rfl _ (fun s x => congrArg Tr.run (lbrule_past_spaced_ev s x)) (by kernel_rfl)
/-! ### (*boustrophedon/lbrule.past).counted -/
noncomputable def lbrule_past_counted_T (p0 : Int × Int × Int × Bool × Bool × Bool × Bool) (c1 : Int) : Tr ((Int × Int × Int × Bool × Bool × Bool × Bool) × Bool) :=
  .br (c1 == 27) (
    .bnd (idx ([p0]) 0) fun x_1 =>
    .pure (p0, x_1.2.2.2.2.1)) (
    .br (c1 == 29) (
      .bnd (idx ([p0]) 0) fun x_2 =>
      .br x_2.2.2.2.2.1 (
        .pure (p0, true)) (
        .bnd (idx ([p0]) 0) fun x_3 =>
        .pure (p0, x_3.2.2.2.2.2.1))) (
      .br (c1 == 28) (
        .bnd (idx ([p0]) 0) fun x_4 =>
        .br x_4.2.2.2.2.1 (
          .pure (p0, true)) (
          .bnd (idx ([p0]) 0) fun x_5 =>
          .pure (p0, x_5.2.2.2.2.2.1))) (
        .br (c1 == 33) (
          .bnd (idx ([p0]) 0) fun x_6 =>
          .pure (p0, x_6.2.2.2.2.2.2)) (
          .pure (p0, false)))))
noncomputable def lbrule_past_counted_F (p0 : Int × Int × Int × Bool × Bool × Bool × Bool) (c1 : Int) : Option ((Int × Int × Int × Bool × Bool × Bool × Bool) × Bool) := (lbrule_past_counted_T p0 c1).run
def lbrule_past_counted_L : List (Nat × LoopAnn) := []
noncomputable def lbrule_past_counted_C : List (Nat × Callee) := []
noncomputable def lbrule_past_counted_fun : BFun := ⟨61, (.st (.pair (.int .u8) (.pair (.int .u8) (.pair (.int .u8) (.pair .bool (.pair .bool (.pair .bool .bool))))))), [.int .u8], [.v .bool], fun s x => lbrule_past_counted_F s x.1⟩
theorem lbrule_past_counted_ev (s : Int × Int × Int × Bool × Bool × Bool × Bool) (x : Tys.I [.int .u8]) : evFunB G0 (fun f => olook f lbrule_past_counted_C) ⟨[], [], [], [], []⟩ (fun i => olook i lbrule_past_counted_L) Try.f43 61 (.st (.pair (.int .u8) (.pair (.int .u8) (.pair (.int .u8) (.pair .bool (.pair .bool (.pair .bool .bool))))))) [.int .u8] [.v .bool] s x = lbrule_past_counted_T s x.1 := by kernel_rfl
theorem lbrule_past_counted_ok : BoxOk Try.prog 43 lbrule_past_counted_fun := evFunB_ok mixed ctx0 (no_calls) Try.func43 (by kernel_rfl) rfl _ (fun s x => congrArg Tr.run (lbrule_past_counted_ev s x)) (by kernel_rfl)
/-! ### boustrophedon/lbrule.letter -/
noncomputable def lbrule_letter_T (c0 : Int) : Tr Bool :=
  .br (c0 == 1) (
    .pure true) (
    .pure (c0 == 2))
noncomputable def lbrule_letter_F (c0 : Int) : Option Bool := (lbrule_letter_T c0).run
def lbrule_letter_L : List (Nat × LoopAnn) := []
noncomputable def lbrule_letter_C : List (Nat × Callee) := []
noncomputable def lbrule_letter_fun : Fun := ⟨[.int .u8], [.v .bool], fun x => lbrule_letter_F x.1⟩
theorem lbrule_letter_ev (x : Tys.I [.int .u8]) : evFun G0 (fun f => olook f lbrule_letter_C) ⟨[], [], [], [], []⟩ (fun i => olook i lbrule_letter_L) Try.f47 [.int .u8] [.v .bool] x = lbrule_letter_T x.1 := by kernel_rfl
theorem lbrule_letter_ok : FunOk Try.prog 47 lbrule_letter_fun := evFun_ok mixed ctx0 (no_calls) Try.func47 (by kernel_rfl) _ (fun x => congrArg Tr.run (lbrule_letter_ev x)) (by kernel_rfl) (by kernel_rfl)
/-! ### boustrophedon/lbrule.ideograph -/
noncomputable def lbrule_ideograph_T (c0 : Int) : Tr Bool :=
  .br (c0 == 30) (
    .pure true) (
    .br (c0 == 31) (
      .pure true) (
      .pure (c0 == 32)))
noncomputable def lbrule_ideograph_F (c0 : Int) : Option Bool := (lbrule_ideograph_T c0).run
def lbrule_ideograph_L : List (Nat × LoopAnn) := []
noncomputable def lbrule_ideograph_C : List (Nat × Callee) := []
noncomputable def lbrule_ideograph_fun : Fun := ⟨[.int .u8], [.v .bool], fun x => lbrule_ideograph_F x.1⟩
theorem lbrule_ideograph_ev (x : Tys.I [.int .u8]) : evFun G0 (fun f => olook f lbrule_ideograph_C) ⟨[], [], [], [], []⟩ (fun i => olook i lbrule_ideograph_L) Try.f48 [.int .u8] [.v .bool] x = lbrule_ideograph_T x.1 := by kernel_rfl
theorem lbrule_ideograph_ok : FunOk Try.prog 48 lbrule_ideograph_fun := evFun_ok mixed ctx0 (no_calls) Try.func48 (by kernel_rfl) _ (fun x => congrArg Tr.run (lbrule_ideograph_ev x)) (by kernel_rfl) (by kernel_rfl)
/-! ### boustrophedon/lbrule.syllable -/
noncomputable def lbrule_syllable_T (c0 : Int) : Tr Bool :=
  .br (c0 == 34) (
    .pure true) (
    .br (c0 == 35) (
      .pure true) (
      .br (c0 == 36) (
        .pure true) (
        .br (c0 == 37) (
          .pure true) (
          .pure (c0 == 38)))))
noncomputable def lbrule_syllable_F (c0 : Int) : Option Bool := (lbrule_syllable_T c0).run
def lbrule_syllable_L : List (Nat × LoopAnn) := []
noncomputable def lbrule_syllable_C : List (Nat × Callee) := []
noncomputable def lbrule_syllable_fun : Fun := ⟨[.int .u8], [.v .bool], fun x => lbrule_syllable_F x.1⟩
theorem lbrule_syllable_ev (x : Tys.I [.int .u8]) : evFun G0 (fun f => olook f lbrule_syllable_C) ⟨[], [], [], [], []⟩ (fun i => olook i lbrule_syllable_L) Try.f49 [.int .u8] [.v .bool] x = lbrule_syllable_T x.1 := by kernel_rfl
theorem lbrule_syllable_ok : FunOk Try.prog 49 lbrule_syllable_fun := evFun_ok mixed ctx0 (no_calls) Try.func49 (by kernel_rfl) _ (fun x => congrArg Tr.run (lbrule_syllable_ev x)) (by kernel_rfl) (by kernel_rfl)
/-! ### boustrophedon/lbrule.built -/
noncomputable def lbrule_built_T (a0 : Int) (c1 : Int) : Tr Bool :=
  .br (a0 == 34) (
    .br (c1 == 34) (
      .pure true) (
      .br (c1 == 35) (
        .pure true) (
        .br (c1 == 37) (
          .pure true) (
          .br (c1 == 38) (
            .pure true) (
            .pure (c1 == 28)))))) (
    .br (a0 == 35) (
      .br (c1 == 35) (
        .pure true) (
        .br (c1 == 36) (
          .pure true) (
          .pure (c1 == 28)))) (
      .br (a0 == 37) (
        .br (c1 == 35) (
          .pure true) (
          .br (c1 == 36) (
            .pure true) (
            .pure (c1 == 28)))) (
        .br (a0 == 36) (
          .br (c1 == 36) (
            .pure true) (
            .pure (c1 == 28))) (
          .br (a0 == 38) (
            .br (c1 == 36) (
              .pure true) (
              .pure (c1 == 28))) (
            .pure false)))))
noncomputable def lbrule_built_F (a0 : Int) (c1 : Int) : Option Bool := (lbrule_built_T a0 c1).run
def lbrule_built_L : List (Nat × LoopAnn) := []
noncomputable def lbrule_built_C : List (Nat × Callee) := []
noncomputable def lbrule_built_fun : Fun := ⟨[.int .u8, .int .u8], [.v .bool], fun x => lbrule_built_F x.1 x.2.1⟩
theorem lbrule_built_ev (x : Tys.I [.int .u8, .int .u8]) : evFun G0 (fun f => olook f lbrule_built_C) ⟨[], [], [], [], []⟩ (fun i => olook i lbrule_built_L) Try.f50 [.int .u8, .int .u8] [.v .bool] x = lbrule_built_T x.1 x.2.1 := by kernel_rfl
theorem lbrule_built_ok : FunOk Try.prog 50 lbrule_built_fun := evFun_ok mixed ctx0 (no_calls) Try.func50 (by kernel_rfl) _ (fun x => congrArg Tr.run (lbrule_built_ev x)) (by kernel_rfl) (by kernel_rfl)
/-! ### (*boustrophedon/lbrule.past).kept -/
noncomputable def lbrule_past_kept_T (p0 : Int × Int × Int × Bool × Bool × Bool × Bool) (c1 : Int) (next2 : Int) : Tr ((Int × Int × Int × Bool × Bool × Bool × Bool) × Bool) :=
  .br (c1 == 14) (
    .pure (p0, true)) (
    .br (c1 == 17) (
      .pure (p0, true)) (
      .br (c1 == 18) (
        .pure (p0, true)) (
        .br (c1 == 24) (
          .pure (p0, true)) (
          .bnd (idx ([p0]) 0) fun x_1 =>
          .br (x_1.1 == 15) (
            .pure (p0, true)) (
            .br (x_1.1 == 17) (
              .br (c1 == 27) (
                .pure (p0, true)) (
                .bnd (idx ([p0]) 0) fun x_2 =>
                .pure (p0, x_2.2.1 == 2))) (
              .br (x_1.1 == 14) (
                .bnd (idx ([p0]) 0) fun x_3 =>
                .pure (p0, x_3.2.1 == 2)) (
                .br (x_1.1 == 26) (
                  .pure (p0, c1 == 2)) (
                  .br (x_1.1 == 1) (
                    .br (c1 == 27) (
                      .pure (p0, true)) (
                      .br (c1 == 29) (
                        .pure (p0, true)) (
                        .br (c1 == 28) (
                          .pure (p0, true)) (
                          .br (c1 == 21) (
                            .pure (p0, true)) (
                            .bnd (lbrule_letter_F c1) fun c_4 =>
                            .pure (p0, c_4)))))) (
                    .br (x_1.1 == 2) (
                      .br (c1 == 27) (
                        .pure (p0, true)) (
                        .br (c1 == 29) (
                          .pure (p0, true)) (
                          .br (c1 == 28) (
                            .pure (p0, true)) (
                            .br (c1 == 21) (
                              .pure (p0, true)) (
                              .bnd (lbrule_letter_F c1) fun c_5 =>
                              .pure (p0, c_5)))))) (
                      .br (x_1.1 == 25) (
                        .bnd (lbrule_letter_F c1) fun c_6 =>
                        .pure (p0, c_6)) (
                        .br (x_1.1 == 27) (
                          .bnd (lbrule_letter_F c1) fun c_7 =>
                          .br c_7 (
                            .pure (p0, true)) (
                            .pure (p0, c1 == 21))) (
                          .br (x_1.1 == 20) (
                            .bnd (lbrule_letter_F c1) fun c_8 =>
                            .br c_8 (
                              .pure (p0, true)) (
                              .pure (p0, c1 == 27))) (
                            .br (x_1.1 == 29) (
                              .bnd (lbrule_ideograph_F c1) fun c_9 =>
                              .br c_9 (
                                .pure (p0, true)) (
                                .bnd (lbrule_syllable_F c1) fun c_10 =>
                                .br c_10 (
                                  .pure (p0, true)) (
                                  .bnd (lbrule_letter_F c1) fun c_11 =>
                                  .br c_11 (
                                    .pure (p0, true)) (
                                    .br (c1 == 27) (
                                      .pure (p0, true)) (
                                      .br (c1 == 21) (
                                        .pure (p0, next2 == 27)) (
                                        .pure (p0, false))))))) (
                              .br (x_1.1 == 28) (
                                .bnd (lbrule_letter_F c1) fun c_12 =>
                                .br c_12 (
                                  .pure (p0, true)) (
                                  .br (c1 == 27) (
                                    .pure (p0, true)) (
                                    .br (c1 == 21) (
                                      .pure (p0, next2 == 27)) (
                                      .pure (p0, false))))) (
                                .br (x_1.1 == 31) (
                                  .br (c1 == 32) (
                                    .pure (p0, true)) (
                                    .pure (p0, c1 == 28))) (
                                  .br (x_1.1 == 30) (
                                    .pure (p0, c1 == 28)) (
                                    .br (x_1.1 == 32) (
                                      .pure (p0, c1 == 28)) (
                                      .bnd (idx ([p0]) 0) fun x_13 =>
                                      .bnd (lbrule_built_F x_13.1 c1) fun c_14 =>
                                      .pure (p0, c_14)))))))))))))))))))
noncomputable def lbrule_past_kept_F (p0 : Int × Int × Int × Bool × Bool × Bool × Bool) (c1 : Int) (next2 : Int) : Option ((Int × Int × Int × Bool × Bool × Bool × Bool) × Bool) := (lbrule_past_kept_T p0 c1 next2).run
def lbrule_past_kept_L : List (Nat × LoopAnn) := []
noncomputable def lbrule_past_kept_C : List (Nat × Callee) := [(47, .plain lbrule_letter_fun), (48, .plain lbrule_ideograph_fun), (49, .plain lbrule_syllable_fun), (50, .plain lbrule_built_fun)]
noncomputable def lbrule_past_kept_fun : BFun := ⟨61, (.st (.pair (.int .u8) (.pair (.int .u8) (.pair (.int .u8) (.pair .bool (.pair .bool (.pair .bool .bool))))))), [.int .u8, .int .u8], [.v .bool], fun s x => lbrule_past_kept_F s x.1 x.2.1⟩
theorem lbrule_past_kept_ev (s : Int × Int × Int × Bool × Bool × Bool × Bool) (x : Tys.I [.int .u8, .int .u8]) : evFunB G0 (fun f => olook f lbrule_past_kept_C) ⟨[], [], [], [], []⟩ (fun i => olook i lbrule_past_kept_L) Try.f44 61 (.st (.pair (.int .u8) (.pair (.int .u8) (.pair (.int .u8) (.pair .bool (.pair .bool (.pair .bool .bool))))))) [.int .u8, .int .u8] [.v .bool] s x = lbrule_past_kept_T s x.1 x.2.1 := by kernel_rfl
theorem lbrule_past_kept_ok : BoxOk Try.prog 44 lbrule_past_kept_fun := evFunB_ok mixed ctx0 (cons_calls (fb := .plain lbrule_letter_fun) lbrule_letter_ok (fun h => by cases h) (cons_calls (fb := .plain lbrule_ideograph_fun) lbrule_ideograph_ok (fun h => by cases h) (cons_calls (fb := .plain lbrule_syllable_fun) lbrule_syllable_ok (fun h => by cases h) (cons_calls (fb := .plain lbrule_built_fun) lbrule_built_ok (fun h => by cases h) (no_calls))))) Try.func44 (by kernel_rfl) rfl _ (fun s x => congrArg Tr.run (lbrule_past_kept_ev s x)) (by kernel_rfl)
/-! ### (*boustrophedon/lbrule.past).status -/
noncomputable def lbrule_past_status_T (p0 : Int × Int × Int × Bool × Bool × Bool × Bool) (c1 : Int) (next2 : Int) : Tr ((Int × Int × Int × Bool × Bool × Bool × Bool) × Int) :=
  .bnd (idx ([p0]) 0) fun x_1 =>
  .br (x_1.1 == 6) (
    .br (c1 == 7) (
      .pure (p0, 0)) (
      .bnd (lbrule_ends_F x_1.1) fun c_2 =>
      .br c_2 (
        .pure (p0, 2)) (
        .bnd (lbrule_ends_F c1) fun c_3 =>
        .br c_3 (
          .pure (p0, 0)) (
          .br (c1 == 9) (
            .pure (p0, 0)) (
            .br (c1 == 10) (
              .pure (p0, 0)) (
              .bnd (idx ([p0]) 0) fun x_4 =>
              .br (x_4.2.2.1 == 10) (
                .pure (p0, 1)) (
                .bnd (idx ([p0]) 0) fun x_5 =>
                .br x_5.2.2.2.1 (
                  .pure (p0, 0)) (
                  .bnd (idx ([p0]) 0) fun x_6 =>
                  .bnd (lbrule_past_glued_F x_6 c1) fun c_7 =>
                  .br c_7.2 (
                    .pure (c_7.1, 0)) (
                    .bnd (idx ([c_7.1]) 0) fun x_8 =>
                    .bnd (lbrule_past_spaced_F x_8 c1) fun c_9 =>
                    .br c_9.2 (
                      .pure (c_9.1, 0)) (
                      .br (x_1.1 == 9) (
                        .pure (c_9.1, 1)) (
                        .br (c1 == 22) (
                          .pure (c_9.1, 0)) (
                          .br (x_1.1 == 22) (
                            .pure (c_9.1, 0)) (
                            .br (c1 == 13) (
                              .pure (c_9.1, 1)) (
                              .br (x_1.1 == 13) (
                                .pure (c_9.1, 1)) (
                                .bnd (idx ([c_9.1]) 0) fun x_10 =>
                                .bnd (lbrule_past_counted_F x_10 c1) fun c_11 =>
                                .br c_11.2 (
                                  .pure (c_11.1, 0)) (
                                  .bnd (idx ([c_11.1]) 0) fun x_12 =>
                                  .bnd (lbrule_past_kept_F x_12 c1 next2) fun c_13 =>
                                  .br c_13.2 (
                                    .pure (c_13.1, 0)) (
                                    .pure (c_13.1, 1)))))))))))))))))) (
    .bnd (lbrule_ends_F x_1.1) fun c_14 =>
    .br c_14 (
      .pure (p0, 2)) (
      .bnd (lbrule_ends_F c1) fun c_15 =>
      .br c_15 (
        .pure (p0, 0)) (
        .br (c1 == 9) (
          .pure (p0, 0)) (
          .br (c1 == 10) (
            .pure (p0, 0)) (
            .bnd (idx ([p0]) 0) fun x_16 =>
            .br (x_16.2.2.1 == 10) (
              .pure (p0, 1)) (
              .bnd (idx ([p0]) 0) fun x_17 =>
              .br x_17.2.2.2.1 (
                .pure (p0, 0)) (
                .bnd (idx ([p0]) 0) fun x_18 =>
                .bnd (lbrule_past_glued_F x_18 c1) fun c_19 =>
                .br c_19.2 (
                  .pure (c_19.1, 0)) (
                  .bnd (idx ([c_19.1]) 0) fun x_20 =>
                  .bnd (lbrule_past_spaced_F x_20 c1) fun c_21 =>
                  .br c_21.2 (
                    .pure (c_21.1, 0)) (
                    .br (x_1.1 == 9) (
                      .pure (c_21.1, 1)) (
                      .br (c1 == 22) (
                        .pure (c_21.1, 0)) (
                        .br (x_1.1 == 22) (
                          .pure (c_21.1, 0)) (
                          .br (c1 == 13) (
                            .pure (c_21.1, 1)) (
                            .br (x_1.1 == 13) (
                              .pure (c_21.1, 1)) (
                              .bnd (idx ([c_21.1]) 0) fun x_22 =>
                              .bnd (lbrule_past_counted_F x_22 c1) fun c_23 =>
                              .br c_23.2 (
                                .pure (c_23.1, 0)) (
                                .bnd (idx ([c_23.1]) 0) fun x_24 =>
                                .bnd (lbrule_past_kept_F x_24 c1 next2) fun c_25 =>
                                .br c_25.2 (
                                  .pure (c_25.1, 0)) (
                                  .pure (c_25.1, 1)))))))))))))))))
noncomputable def lbrule_past_status_F (p0 : Int × Int × Int × Bool × Bool × Bool × Bool) (c1 : Int) (next2 : Int) : Option ((Int × Int × Int × Bool × Bool × Bool × Bool) × Int) := (lbrule_past_status_T p0 c1 next2).run
def lbrule_past_status_L : List (Nat × LoopAnn) := []
noncomputable def lbrule_past_status_C : List (Nat × Callee) := [(40, .plain lbrule_ends_fun), (41, .lbox lbrule_past_glued_fun), (42, .lbox lbrule_past_spaced_fun), (43, .lbox lbrule_past_counted_fun), (44, .lbox lbrule_past_kept_fun)]
noncomputable def lbrule_past_status_fun : BFun := ⟨61, (.st (.pair (.int .u8) (.pair (.int .u8) (.pair (.int .u8) (.pair .bool (.pair .bool (.pair .bool .bool))))))), [.int .u8, .int .u8], [.v (.int .i64)], fun s x => lbrule_past_status_F s x.1 x.2.1⟩
theorem lbrule_past_status_ev (s : Int × Int × Int × Bool × Bool × Bool × Bool) (x : Tys.I [.int .u8, .int .u8]) : evFunB G0 (fun f => olook f lbrule_past_status_C) ⟨[], [], [41, 42, 43, 44], [], []⟩ (fun i => olook i lbrule_past_status_L) Try.f34 61 (.st (.pair (.int .u8) (.pair (.int .u8) (.pair (.int .u8) (.pair .bool (.pair .bool (.pair .bool .bool))))))) [.int .u8, .int .u8] [.v (.int .i64)] s x = lbrule_past_status_T s x.1 x.2.1 := by kernel_rfl
theorem lbrule_past_status_ok : BoxOk Try.prog 34 lbrule_past_status_fun := evFunB_ok mixed ctx0 (cons_calls (fb := .plain lbrule_ends_fun) lbrule_ends_ok (fun h => by cases h) (cons_calls (fb := .lbox lbrule_past_glued_fun) lbrule_past_glued_ok (fun h => by rfl) (cons_calls (fb := .lbox lbrule_past_spaced_fun) lbrule_past_spaced_ok (fun h => by rfl) (cons_calls (fb := .lbox lbrule_past_counted_fun) lbrule_past_counted_ok (fun h => by rfl) (cons_calls (fb := .lbox lbrule_past_kept_fun) lbrule_past_kept_ok (fun h => by rfl) (no_calls)))))) Try.func34 (by kernel_rfl) rfl _ (fun s x => congrArg Tr.run (lbrule_past_status_ev s x)) (by kernel_rfl)
/-! ### boustrophedon/lbrule.following -/
noncomputable def lbrule_following_T (us0 : List (Int × Int × Int × Bool)) (i1 : Int) : Tr Int :=
  .br (decide ((IntKind.i64.wrap (i1 + 1)) < (us0.length : Int))) (
    .bnd (idx us0 (IntKind.i64.wrap (i1 + 1))) fun x_1 =>
    .pure x_1.2.2.1) (
    .pure 0)
noncomputable def lbrule_following_F (us0 : List (Int × Int × Int × Bool)) (i1 : Int) : Option Int := (lbrule_following_T us0 i1).run
def lbrule_following_L : List (Nat × LoopAnn) := []
noncomputable def lbrule_following_C : List (Nat × Callee) := []
noncomputable def lbrule_following_fun : Fun := ⟨[.sl (.st (.pair (.int .i64) (.pair (.int .i64) (.pair (.int .u8) .bool)))), .int .i64], [.v (.int .u8)], fun x => lbrule_following_F x.1 x.2.1⟩
theorem lbrule_following_ev (x : Tys.I [.sl (.st (.pair (.int .i64) (.pair (.int .i64) (.pair (.int .u8) .bool)))), .int .i64]) : evFun G0 (fun f => olook f lbrule_following_C) ⟨[], [], [], [], []⟩ (fun i => olook i lbrule_following_L) Try.f35 [.sl (.st (.pair (.int .i64) (.pair (.int .i64) (.pair (.int .u8) .bool)))), .int .i64] [.v (.int .u8)] x = lbrule_following_T x.1 x.2.1 := by kernel_rfl
theorem lbrule_following_ok : FunOk Try.prog 35 lbrule_following_fun := evFun_ok mixed ctx0 (no_calls) Try.func35 (by kernel_rfl) _ (fun x => congrArg Tr.run (lbrule_following_ev x)) (by kernel_rfl) (by kernel_rfl)
/-! ### (*boustrophedon/lbrule.past).add -/
noncomputable def lbrule_past_add_T (p0 : Int × Int × Int × Bool × Bool × Bool × Bool) (u1 : Int × Int × Int × Bool) : Tr ((Int × Int × Int × Bool × Bool × Bool × Bool) × Unit) :=
  .bnd (idx ([p0]) 0) fun x_1 =>
  .bnd (idx ([p0]) 0) fun x_2 =>
  .bnd (idx ([(x_2.1, x_1.1, x_2.2.2)]) 0) fun x_3 =>
  .br (u1.2.2.1 != 9) (
    .bnd (idx ([(u1.2.2.1, x_3.2)]) 0) fun x_4 =>
    .bnd (idx ([(x_4.1, x_4.2.1, u1.2.2.1, x_4.2.2.2)]) 0) fun x_5 =>
    .bnd (Tr.run (
    .bnd (idx ([(x_5.1, x_5.2.1, x_5.2.2.1, u1.2.2.2, x_5.2.2.2.2)]) 0) fun x_6 =>
    .br x_6.2.2.2.2.1 (
      .br (u1.2.2.1 == 19) (
        .pure ((x_5.1, x_5.2.1, x_5.2.2.1, u1.2.2.2, x_5.2.2.2.2), u1.2.2.1, true)) (
        .pure ((x_5.1, x_5.2.1, x_5.2.2.1, u1.2.2.2, x_5.2.2.2.2), u1.2.2.1, u1.2.2.1 == 20))) (
      .pure ((x_5.1, x_5.2.1, x_5.2.2.1, u1.2.2.2, x_5.2.2.2.2), u1.2.2.1, false)) : Tr ((Int × Int × Int × Bool × Bool × Bool × Bool) × Int × Bool))) fun j_7 =>
    .bnd (idx ([j_7.1]) 0) fun x_8 =>
    .bnd (Tr.run (
    .br (j_7.2.1 == 27) (
      .pure ((x_8.1, x_8.2.1, x_8.2.2.1, x_8.2.2.2.1, x_8.2.2.2.2.1, j_7.2.2, x_8.2.2.2.2.2.2), j_7.2.1, true)) (
      .bnd (idx ([(x_8.1, x_8.2.1, x_8.2.2.1, x_8.2.2.2.1, x_8.2.2.2.2.1, j_7.2.2, x_8.2.2.2.2.2.2)]) 0) fun x_9 =>
      .br x_9.2.2.2.2.1 (
        .br (j_7.2.1 == 26) (
          .pure ((x_8.1, x_8.2.1, x_8.2.2.1, x_8.2.2.2.1, x_8.2.2.2.2.1, j_7.2.2, x_8.2.2.2.2.2.2), j_7.2.1, true)) (
          .pure ((x_8.1, x_8.2.1, x_8.2.2.1, x_8.2.2.2.1, x_8.2.2.2.2.1, j_7.2.2, x_8.2.2.2.2.2.2), j_7.2.1, j_7.2.1 == 25))) (
        .pure ((x_8.1, x_8.2.1, x_8.2.2.1, x_8.2.2.2.1, x_8.2.2.2.2.1, j_7.2.2, x_8.2.2.2.2.2.2), j_7.2.1, false))) : Tr ((Int × Int × Int × Bool × Bool × Bool × Bool) × Int × Bool))) fun j_10 =>
    .bnd (idx ([j_10.1]) 0) fun x_11 =>
    .br (j_10.2.1 == 33) (
      .bnd (idx ([(x_11.1, x_11.2.1, x_11.2.2.1, x_11.2.2.2.1, j_10.2.2, x_11.2.2.2.2.2)]) 0) fun x_12 =>
      .bnd (idx ([(x_11.1, x_11.2.1, x_11.2.2.1, x_11.2.2.2.1, j_10.2.2, x_11.2.2.2.2.2)]) 0) fun x_13 =>
      .pure ((x_13.1, x_13.2.1, x_13.2.2.1, x_13.2.2.2.1, x_13.2.2.2.2.1, x_13.2.2.2.2.2.1, !x_12.2.2.2.2.2.2), ())) (
      .bnd (idx ([(x_11.1, x_11.2.1, x_11.2.2.1, x_11.2.2.2.1, j_10.2.2, x_11.2.2.2.2.2)]) 0) fun x_14 =>
      .pure ((x_14.1, x_14.2.1, x_14.2.2.1, x_14.2.2.2.1, x_14.2.2.2.2.1, x_14.2.2.2.2.2.1, false), ()))) (
    .bnd (idx ([(u1.2.2.1, x_3.2)]) 0) fun x_15 =>
    .bnd (Tr.run (
    .bnd (idx ([(x_15.1, x_15.2.1, x_15.2.2.1, u1.2.2.2, x_15.2.2.2.2)]) 0) fun x_16 =>
    .br x_16.2.2.2.2.1 (
      .br (u1.2.2.1 == 19) (
        .pure ((x_15.1, x_15.2.1, x_15.2.2.1, u1.2.2.2, x_15.2.2.2.2), u1.2.2.1, true)) (
        .pure ((x_15.1, x_15.2.1, x_15.2.2.1, u1.2.2.2, x_15.2.2.2.2), u1.2.2.1, u1.2.2.1 == 20))) (
      .pure ((x_15.1, x_15.2.1, x_15.2.2.1, u1.2.2.2, x_15.2.2.2.2), u1.2.2.1, false)) : Tr ((Int × Int × Int × Bool × Bool × Bool × Bool) × Int × Bool))) fun j_17 =>
    .bnd (idx ([j_17.1]) 0) fun x_18 =>
    .bnd (Tr.run (
    .br (j_17.2.1 == 27) (
      .pure ((x_18.1, x_18.2.1, x_18.2.2.1, x_18.2.2.2.1, x_18.2.2.2.2.1, j_17.2.2, x_18.2.2.2.2.2.2), j_17.2.1, true)) (
      .bnd (idx ([(x_18.1, x_18.2.1, x_18.2.2.1, x_18.2.2.2.1, x_18.2.2.2.2.1, j_17.2.2, x_18.2.2.2.2.2.2)]) 0) fun x_19 =>
      .br x_19.2.2.2.2.1 (
        .br (j_17.2.1 == 26) (
          .pure ((x_18.1, x_18.2.1, x_18.2.2.1, x_18.2.2.2.1, x_18.2.2.2.2.1, j_17.2.2, x_18.2.2.2.2.2.2), j_17.2.1, true)) (
          .pure ((x_18.1, x_18.2.1, x_18.2.2.1, x_18.2.2.2.1, x_18.2.2.2.2.1, j_17.2.2, x_18.2.2.2.2.2.2), j_17.2.1, j_17.2.1 == 25))) (
        .pure ((x_18.1, x_18.2.1, x_18.2.2.1, x_18.2.2.2.1, x_18.2.2.2.2.1, j_17.2.2, x_18.2.2.2.2.2.2), j_17.2.1, false))) : Tr ((Int × Int × Int × Bool × Bool × Bool × Bool) × Int × Bool))) fun j_20 =>
    .bnd (idx ([j_20.1]) 0) fun x_21 =>
    .br (j_20.2.1 == 33) (
      .bnd (idx ([(x_21.1, x_21.2.1, x_21.2.2.1, x_21.2.2.2.1, j_20.2.2, x_21.2.2.2.2.2)]) 0) fun x_22 =>
      .bnd (idx ([(x_21.1, x_21.2.1, x_21.2.2.1, x_21.2.2.2.1, j_20.2.2, x_21.2.2.2.2.2)]) 0) fun x_23 =>
      .pure ((x_23.1, x_23.2.1, x_23.2.2.1, x_23.2.2.2.1, x_23.2.2.2.2.1, x_23.2.2.2.2.2.1, !x_22.2.2.2.2.2.2), ())) (
      .bnd (idx ([(x_21.1, x_21.2.1, x_21.2.2.1, x_21.2.2.2.1, j_20.2.2, x_21.2.2.2.2.2)]) 0) fun x_24 =>
      .pure ((x_24.1, x_24.2.1, x_24.2.2.1, x_24.2.2.2.1, x_24.2.2.2.2.1, x_24.2.2.2.2.2.1, false), ())))
noncomputable def lbrule_past_add_F (p0 : Int × Int × Int × Bool × Bool × Bool × Bool) (u1 : Int × Int × Int × Bool) : Option ((Int × Int × Int × Bool × Bool × Bool × Bool) × Unit) := (lbrule_past_add_T p0 u1).run
def lbrule_past_add_L : List (Nat × LoopAnn) := []
noncomputable def lbrule_past_add_C : List (Nat × Callee) := []
noncomputable def lbrule_past_add_fun : BFun := ⟨61, (.st (.pair (.int .u8) (.pair (.int .u8) (.pair (.int .u8) (.pair .bool (.pair .bool (.pair .bool .bool))))))), [.st (.pair (.int .i64) (.pair (.int .i64) (.pair (.int .u8) .bool)))], [], fun s x => lbrule_past_add_F s x.1⟩
theorem lbrule_past_add_ev (s : Int × Int × Int × Bool × Bool × Bool × Bool) (x : Tys.I [.st (.pair (.int .i64) (.pair (.int .i64) (.pair (.int .u8) .bool)))]) : evFunB G0 (fun f => olook f lbrule_past_add_C) ⟨[], [], [], [], [(6, [(13, [.slbox 0 61 (.st (.pair (.int .u8) (.pair (.int .u8) (.pair (.int .u8) (.pair .bool (.pair .bool (.pair .bool .bool))))))), .sv 4 true (.int .u8), .slptr 29 (.st (.pair (.int .u8) (.pair (.int .u8) (.pair (.int .u8) (.pair .bool (.pair .bool (.pair .bool .bool))))))), .sv 41 true .bool])]), (7, [(17, [.slbox 0 61 (.st (.pair (.int .u8) (.pair (.int .u8) (.pair (.int .u8) (.pair .bool (.pair .bool (.pair .bool .bool))))))), .sv 4 true (.int .u8), .slptr 44 (.st (.pair (.int .u8) (.pair (.int .u8) (.pair (.int .u8) (.pair .bool (.pair .bool (.pair .bool .bool))))))), .sv 60 true .bool])])]⟩ (fun i => olook i lbrule_past_add_L) Try.f36 61 (.st (.pair (.int .u8) (.pair (.int .u8) (.pair (.int .u8) (.pair .bool (.pair .bool (.pair .bool .bool))))))) [.st (.pair (.int .i64) (.pair (.int .i64) (.pair (.int .u8) .bool)))] [] s x = lbrule_past_add_T s x.1 := by kernel_rfl
theorem lbrule_past_add_ok : BoxOk Try.prog 36 lbrule_past_add_fun := evFunB_ok mixed ctx0 (no_calls) Try.func36 (by kernel_rfl) rfl _ (fun s x => congrArg Tr.run (lbrule_past_add_ev s x)) (by kernel_rfl)
/-! ### boustrophedon/lbrule.Between -/
noncomputable def lbrule_Between_L4 (us0 : List (Int × Int × Int × Bool)) (ss3 : List Int) (p4 : Int × Int × Int × Bool × Bool × Bool × Bool) (t11 : List (Int × Int × Int × Bool)) (t12 : Int) (t13 : Int) : Tr (Lap ((List (Int × Int × Int × Bool)) × List Int × (Int × Int × Int × Bool × Bool × Bool × Bool) × (List (Int × Int × Int × Bool)) × Int × Int) (List Int)) :=
  .br (decide (t13 < t12)) (
    .bnd (idx t11 t13) fun x_2 =>
    .br (decide (t13 > 0)) (
      .bnd (idx ([x_2]) 0) fun x_3 =>
      .bnd (lbrule_following_F us0 t13) fun c_4 =>
      .bnd (idx ([p4]) 0) fun x_5 =>
      .bnd (lbrule_past_status_F x_5 x_3.2.2.1 c_4) fun c_6 =>
      .bnd (idx ss3 t13) fun x_7 =>
      .bnd (idx ([x_2]) 0) fun x_8 =>
      .bnd (idx ([c_6.1]) 0) fun x_9 =>
      .bnd (lbrule_past_add_F x_9 x_8) fun c_10 =>
      .pure (.next (us0, ss3.set (Int.toNat t13) c_6.2, c_10.1, t11, t12, IntKind.i64.wrap (t13 + 1)))) (
      .bnd (idx ([x_2]) 0) fun x_11 =>
      .bnd (idx ([p4]) 0) fun x_12 =>
      .bnd (lbrule_past_add_F x_12 x_11) fun c_13 =>
      .pure (.next (us0, ss3, c_13.1, t11, t12, IntKind.i64.wrap (t13 + 1))))) (
    .pure (.done ss3))
noncomputable def lbrule_Between_T (us0 : List (Int × Int × Int × Bool)) : Tr (List Int) :=
  .bnd (mk 17592186044416 0 (us0.length : Int)) fun r_1 =>
  .bnd (loopW (fun s => (lbrule_Between_L4 s.1 s.2.1 s.2.2.1 s.2.2.2.1 s.2.2.2.2.1 s.2.2.2.2.2).run) (us0, r_1, (0, 0, 9, false, false, false, false), us0, (us0.length : Int), 0)) fun l_14 =>
  .pure l_14
noncomputable def lbrule_Between_F (us0 : List (Int × Int × Int × Bool)) : Option (List Int) := (lbrule_Between_T us0).run
def lbrule_Between_L : List (Nat × LoopAnn) := [(4, { head := [.sv 0 false (.sl (.st (.pair (.int .i64) (.pair (.int .i64) (.pair (.int .u8) .bool))))), .srow 3 1000003 52 true (.int .i64), .sbox 4 1000004 61 true (.st (.pair (.int .u8) (.pair (.int .u8) (.pair (.int .u8) (.pair .bool (.pair .bool (.pair .bool .bool))))))), .sv 11 false (.sl (.st (.pair (.int .i64) (.pair (.int .i64) (.pair (.int .u8) .bool))))), .sv 12 true (.int .i64), .sv 13 true (.int .i64)], xid := 0, out := [.srow 3 1000003 52 true (.int .i64)], hasRet := false, res := [] })]
noncomputable def lbrule_Between_C : List (Nat × Callee) := [(35, .plain lbrule_following_fun), (34, .lbox lbrule_past_status_fun), (36, .lbox lbrule_past_add_fun)]
noncomputable def lbrule_Between_fun : Fun := ⟨[.sl (.st (.pair (.int .i64) (.pair (.int .i64) (.pair (.int .u8) .bool))))], [.row 52 (.int .i64)], fun x => lbrule_Between_F x.1⟩
theorem lbrule_Between_ev (x : Tys.I [.sl (.st (.pair (.int .i64) (.pair (.int .i64) (.pair (.int .u8) .bool))))]) : evFun G0 (fun f => olook f lbrule_Between_C) ⟨[], [], [34, 36], [], []⟩ (fun i => olook i lbrule_Between_L) Try.f26 [.sl (.st (.pair (.int .i64) (.pair (.int .i64) (.pair (.int .u8) .bool))))] [.row 52 (.int .i64)] x = lbrule_Between_T x.1 := by kernel_rfl
theorem lbrule_Between_ok : FunOk Try.prog 26 lbrule_Between_fun := evFun_ok mixed ctx0 (cons_calls (fb := .plain lbrule_following_fun) lbrule_following_ok (fun h => by cases h) (cons_calls (fb := .lbox lbrule_past_status_fun) lbrule_past_status_ok (fun h => by rfl) (cons_calls (fb := .lbox lbrule_past_add_fun) lbrule_past_add_ok (fun h => by rfl) (no_calls)))) Try.func26 (by kernel_rfl) _ (fun x => congrArg Tr.run (lbrule_Between_ev x)) (by kernel_rfl) (by kernel_rfl)
/-! ### boustrophedon/boustrophedonlaw20.of -/
noncomputable def law20_of_L3 (out3 : List (Int × Int × Int × Bool)) (t6 : List Int) (t7 : Int) (t8 : Int) : Tr (Lap ((List (Int × Int × Int × Bool)) × List Int × Int × Int) (List (Int × Int × Int × Bool))) :=
  .br (decide (t8 < t7)) (
    .bnd (idx t6 t8) fun x_1 =>
    .bnd (app 5864062014805 out3 ([(t8, IntKind.i64.wrap (t8 + 1), x_1, false)])) fun r_2 =>
    .pure (.next (r_2, t6, t7, IntKind.i64.wrap (t8 + 1)))) (
    .pure (.done out3))
noncomputable def law20_of_T (cs0 : List Int) : Tr (List (Int × Int × Int × Bool)) :=
  .bnd (loopW (fun s => (law20_of_L3 s.1 s.2.1 s.2.2.1 s.2.2.2).run) ([], cs0, (cs0.length : Int), 0)) fun l_3 =>
  .pure l_3
noncomputable def law20_of_F (cs0 : List Int) : Option (List (Int × Int × Int × Bool)) := (law20_of_T cs0).run
def law20_of_L : List (Nat × LoopAnn) := [(3, { head := [.srow 3 1000003 50 true (.st (.pair (.int .i64) (.pair (.int .i64) (.pair (.int .u8) .bool)))), .sv 6 false (.sl (.int .u8)), .sv 7 true (.int .i64), .sv 8 true (.int .i64)], xid := 0, out := [.srow 3 1000003 50 true (.st (.pair (.int .i64) (.pair (.int .i64) (.pair (.int .u8) .bool))))], hasRet := false, res := [] })]
noncomputable def law20_of_C : List (Nat × Callee) := []
noncomputable def law20_of_fun : Fun := ⟨[.sl (.int .u8)], [.row 50 (.st (.pair (.int .i64) (.pair (.int .i64) (.pair (.int .u8) .bool))))], fun x => law20_of_F x.1⟩
theorem law20_of_ev (x : Tys.I [.sl (.int .u8)]) : evFun G0 (fun f => olook f law20_of_C) ⟨[], [], [], [], []⟩ (fun i => olook i law20_of_L) Try.f28 [.sl (.int .u8)] [.row 50 (.st (.pair (.int .i64) (.pair (.int .i64) (.pair (.int .u8) .bool))))] x = law20_of_T x.1 := by kernel_rfl
theorem law20_of_ok : FunOk Try.prog 28 law20_of_fun := evFun_ok mixed ctx0 (no_calls) Try.func28 (by kernel_rfl) _ (fun x => congrArg Tr.run (law20_of_ev x)) (by kernel_rfl) (by kernel_rfl)
/-! ### boustrophedon/boustrophedonlaw20.awake -/
noncomputable def law20_awake_T : Tr Bool :=
  .bnd (law20_of_F ([1, 9, 1])) fun c_1 =>
  .bnd (lbrule_Between_F c_1) fun c_2 =>
  .bnd (law20_are_F c_2 ([0, 0, 1])) fun c_3 =>
  .br c_3 (
    .bnd (law20_of_F ([6, 7, 1])) fun c_4 =>
    .bnd (lbrule_Between_F c_4) fun c_5 =>
    .bnd (law20_are_F c_5 ([0, 0, 2])) fun c_6 =>
    .br c_6 (
      .bnd (law20_of_F ([33, 33, 33])) fun c_7 =>
      .bnd (lbrule_Between_F c_7) fun c_8 =>
      .bnd (law20_are_F c_8 ([0, 0, 1])) fun c_9 =>
      .br c_9 (
        .bnd (law20_of_F ([29, 21, 27])) fun c_10 =>
        .bnd (lbrule_Between_F c_10) fun c_11 =>
        .bnd (law20_are_F c_11 ([0, 0, 0])) fun c_12 =>
        .br c_12 (
          .bnd (law20_of_F ([22, 9, 21])) fun c_13 =>
          .bnd (lbrule_Between_F c_13) fun c_14 =>
          .bnd (law20_are_F c_14 ([0, 0, 0])) fun c_15 =>
          .pure c_15) (
          .pure false)) (
        .pure false)) (
      .pure false)) (
    .pure false)
noncomputable def law20_awake_F : Option Bool := (law20_awake_T).run
def law20_awake_L : List (Nat × LoopAnn) := []
noncomputable def law20_awake_C : List (Nat × Callee) := [(28, .plain law20_of_fun), (26, .plain lbrule_Between_fun), (25, .plain law20_are_fun)]
noncomputable def law20_awake_fun : Fun := ⟨[], [.v .bool], fun _ => law20_awake_F⟩
theorem law20_awake_ev (x : Tys.I []) : evFun G0 (fun f => olook f law20_awake_C) ⟨[], [], [], [], []⟩ (fun i => olook i law20_awake_L) Try.f22 [] [.v .bool] x = law20_awake_T := by kernel_rfl
theorem law20_awake_ok : FunOk Try.prog 22 law20_awake_fun := evFun_ok mixed ctx0 (cons_calls (fb := .plain law20_of_fun) law20_of_ok (fun h => by cases h) (cons_calls (fb := .plain lbrule_Between_fun) lbrule_Between_ok (fun h => by cases h) (cons_calls (fb := .plain law20_are_fun) law20_are_ok (fun h => by cases h) (no_calls)))) Try.func22 (by kernel_rfl) _ (fun x => congrArg Tr.run (law20_awake_ev x)) (by kernel_rfl) (by kernel_rfl)
/-! ### boustrophedon/boustrophedonlaw19.Classes -/
noncomputable def law19_Classes_L3 (ns0 : List Int) (out3 : List Int) (k4 : Int) : Tr (Lap (List Int × List Int × Int) (List Int)) :=
  .br (decide (k4 < (ns0.length : Int))) (
    .bnd (idx ns0 k4) fun x_1 =>
    .bnd (app 140737488355328 out3 ([x_1.tmod 43])) fun r_2 =>
    .pure (.next (ns0, r_2, IntKind.i64.wrap (k4 + 1)))) (
    .pure (.done out3))
noncomputable def law19_Classes_T (ns0 : List Int) : Tr (List Int) :=
  .bnd (loopW (fun s => (law19_Classes_L3 s.1 s.2.1 s.2.2).run) (ns0, [], 0)) fun l_3 =>
  .pure l_3
noncomputable def law19_Classes_F (ns0 : List Int) : Option (List Int) := (law19_Classes_T ns0).run
def law19_Classes_L : List (Nat × LoopAnn) := [(3, { head := [.sv 0 false (.sl (.int .u8)), .srow 3 1000003 48 true (.int .u8), .sv 4 true (.int .i64)], xid := 0, out := [.srow 3 1000003 48 true (.int .u8)], hasRet := false, res := [] })]
noncomputable def law19_Classes_C : List (Nat × Callee) := []
noncomputable def law19_Classes_fun : Fun := ⟨[.sl (.int .u8)], [.row 48 (.int .u8)], fun x => law19_Classes_F x.1⟩
theorem law19_Classes_ev (x : Tys.I [.sl (.int .u8)]) : evFun G0 (fun f => olook f law19_Classes_C) ⟨[], [], [], [], []⟩ (fun i => olook i law19_Classes_L) Try.f24 [.sl (.int .u8)] [.row 48 (.int .u8)] x = law19_Classes_T x.1 := by kernel_rfl
theorem law19_Classes_ok : FunOk Try.prog 24 law19_Classes_fun := evFun_ok mixed ctx0 (no_calls) Try.func24 (by kernel_rfl) _ (fun x => congrArg Tr.run (law19_Classes_ev x)) (by kernel_rfl) (by kernel_rfl)
/-! ### boustrophedon/boustrophedonlaw20.LbruleSpaces -/
noncomputable def law20_LbruleSpaces_L7 (c1 : Int) (more2 : Int) (a8 : List Int) (b9 : List Int) (k10 : Int) : Tr (Lap (Int × Int × List Int × List Int × Int) (Int × List Int × List Int)) :=
  .br (decide (k10 < (IntKind.i64.wrap (more2.tmod 6)))) (
    .bnd (app 140737488355328 b9 ([9])) fun r_6 =>
    .pure (.next (c1, more2, a8, r_6, IntKind.i64.wrap (k10 + 1)))) (
    .pure (.done (c1, a8, b9)))
noncomputable def law20_LbruleSpaces_T (ns0 : List Int) (c1 : Int) (more2 : Int) : Tr Bool :=
  .bnd law20_awake_F fun c_1 =>
  .br (!c_1) (
    .pure false) (
    .bnd (law19_Classes_F ns0) fun c_2 =>
    .bnd (app 140737488355328 [] c_2) fun r_3 =>
    .bnd (app 140737488355328 r_3 ([9])) fun r_4 =>
    .bnd (app 140737488355328 [] r_4) fun r_5 =>
    .bnd (loopW (fun s => (law20_LbruleSpaces_L7 s.1 s.2.1 s.2.2.1 s.2.2.2.1 s.2.2.2.2).run) (c1, more2, r_4, r_5, 0)) fun l_7 =>
    .bnd (app 140737488355328 l_7.2.1 ([l_7.1.tmod 43])) fun r_8 =>
    .bnd (law20_of_F r_8) fun c_9 =>
    .bnd (lbrule_Between_F c_9) fun c_10 =>
    .bnd (app 140737488355328 l_7.2.2 ([l_7.1.tmod 43])) fun r_11 =>
    .bnd (law20_of_F r_11) fun c_12 =>
    .bnd (lbrule_Between_F c_12) fun c_13 =>
    .br ((c_10.length : Int) == (IntKind.i64.wrap ((l_7.2.1.length : Int) + 1))) (
      .br ((c_13.length : Int) == (IntKind.i64.wrap ((l_7.2.2.length : Int) + 1))) (
        .bnd (idx c_10 (l_7.2.1.length : Int)) fun x_14 =>
        .bnd (idx c_13 (l_7.2.2.length : Int)) fun x_15 =>
        .pure (x_14 == x_15)) (
        .pure false)) (
      .pure false))
noncomputable def law20_LbruleSpaces_F (ns0 : List Int) (c1 : Int) (more2 : Int) : Option Bool := (law20_LbruleSpaces_T ns0 c1 more2).run
def law20_LbruleSpaces_L : List (Nat × LoopAnn) := [(7, { head := [.sv 1 false (.int .u8), .sv 2 false (.int .u8), .srow 8 1000008 48 true (.int .u8), .srow 9 1000009 48 true (.int .u8), .sv 10 true (.int .i64)], xid := 0, out := [.sv 1 false (.int .u8), .srow 8 1000008 48 true (.int .u8), .srow 9 1000009 48 true (.int .u8)], hasRet := false, res := [] })]
noncomputable def law20_LbruleSpaces_C : List (Nat × Callee) := [(22, .plain law20_awake_fun), (24, .plain law19_Classes_fun), (28, .plain law20_of_fun), (26, .plain lbrule_Between_fun)]
noncomputable def law20_LbruleSpaces_fun : Fun := ⟨[.sl (.int .u8), .int .u8, .int .u8], [.v .bool], fun x => law20_LbruleSpaces_F x.1 x.2.1 x.2.2.1⟩
theorem law20_LbruleSpaces_ev (x : Tys.I [.sl (.int .u8), .int .u8, .int .u8]) : evFun G0 (fun f => olook f law20_LbruleSpaces_C) ⟨[], [], [], [], []⟩ (fun i => olook i law20_LbruleSpaces_L) Try.f11 [.sl (.int .u8), .int .u8, .int .u8] [.v .bool] x = law20_LbruleSpaces_T x.1 x.2.1 x.2.2.1 := by kernel_rfl
theorem law20_LbruleSpaces_ok : FunOk Try.prog 11 law20_LbruleSpaces_fun := evFun_ok mixed ctx0 (cons_calls (fb := .plain law20_awake_fun) law20_awake_ok (fun h => by cases h) (cons_calls (fb := .plain law19_Classes_fun) law19_Classes_ok (fun h => by cases h) (cons_calls (fb := .plain law20_of_fun) law20_of_ok (fun h => by cases h) (cons_calls (fb := .plain lbrule_Between_fun) lbrule_Between_ok (fun h => by cases h) (no_calls))))) Try.func11 (by kernel_rfl) _ (fun x => congrArg Tr.run (law20_LbruleSpaces_ev x)) (by kernel_rfl) (by kernel_rfl)
end Go.Proofs.Ytgkoijnjoellgaa
