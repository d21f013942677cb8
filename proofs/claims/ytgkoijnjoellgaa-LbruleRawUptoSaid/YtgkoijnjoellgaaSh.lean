/-
  The plain readings of the functions of this seat, by program; each is tied to the loaded function.
-/
import Derived.Test.YtgkoijnjoellgaaEvErr
import Derived.Test.YtgkoijnjoellgaaChecked
namespace Go.Proofs.Ytgkoijnjoellgaa
set_option maxRecDepth 100000
set_option linter.unusedVariables false

def G0 : Ctx := { ty := [(3, .int .i64), (4, .bool), (5, .int .u8), (24, .sl (.int .u8)), (31, .sl (.int .i64)), (38, .sl (.st (.pair (.int .i64) (.pair (.int .i64) (.pair (.int .u8) .bool))))), (40, .sl (.int .u8)), (43, .sl (.int .i64)), (46, .sl .bool), (48, .int .u8), (50, .st (.pair (.int .i64) (.pair (.int .i64) (.pair (.int .u8) .bool)))), (52, .int .i64), (61, .st (.pair (.int .u8) (.pair (.int .u8) (.pair (.int .u8) (.pair .bool (.pair .bool (.pair .bool .bool))))))), (65, .sl (.st (.pair (.int .i64) .bool))), (67, .st (.pair (.int .i64) .bool))], sls := [(24, ⟨5, .int .u8, 140737488355328⟩), (31, ⟨3, .int .i64, 17592186044416⟩), (38, ⟨50, .st (.pair (.int .i64) (.pair (.int .i64) (.pair (.int .u8) .bool))), 5864062014805⟩), (40, ⟨48, .int .u8, 140737488355328⟩), (43, ⟨52, .int .i64, 17592186044416⟩), (46, ⟨4, .bool, 140737488355328⟩), (65, ⟨67, .st (.pair (.int .i64) .bool), 8796093022208⟩)], eqs := [], enos := [] }
theorem mixed : Try.prog.follows .mixedOrders = true := by kernel_rfl
theorem ctx0 : CtxOk Try.prog G0 := ctx_ok (by kernel_rfl)
theorem no_calls {Λ : List Nat} : ∀ f fa, olook f ([] : List (Nat × Callee)) = some fa → CalleeOk Try.prog f fa ∧ (fa.isPlain = false → inList f Λ = true) := fun _ _ h => by cases h
theorem cons_calls {Λ : List Nat} {k : Nat} {fb : Callee} {l : List (Nat × Callee)} (h : CalleeOk Try.prog k fb) (hi : fb.isPlain = false → inList k Λ = true) (hl : ∀ f fa, olook f l = some fa → CalleeOk Try.prog f fa ∧ (fa.isPlain = false → inList f Λ = true)) : ∀ f fa, olook f ((k, fb) :: l) = some fa → CalleeOk Try.prog f fa ∧ (fa.isPlain = false → inList f Λ = true) := by
  intro f fa hf
  rw [olook_cons] at hf
  split at hf
  · rename_i e; subst e; cases hf; exact ⟨h, hi⟩
  · exact hl f fa hf

/-! ### boustrophedon/boustrophedonlaw20.are -/
noncomputable def law20_are_L4 (s0 : List Int) (want1 : List Int) (k5 : Int) : Tr (Lap (List Int × List Int × Int) (Sum Unit Bool)) :=
  .br (decide (k5 < (s0.length : Int))) (
    .bnd (idx s0 k5) fun x_1 =>
    .bnd (idx want1 k5) fun x_2 =>
    .br (x_1 != x_2) (
      .pure (.done (.inr false))) (
      .pure (.next (s0, want1, IntKind.i64.wrap (k5 + 1))))) (
    .pure (.done (.inl ())))
noncomputable def law20_are_T (s0 : List Int) (want1 : List Int) : Tr Bool :=
  .br ((s0.length : Int) != (want1.length : Int)) (
    .pure false) (
    .alt (loopW (fun s => (law20_are_L4 s.1 s.2.1 s.2.2).run) (s0, want1, 0)) (fun l_3 =>
      .pure true) (fun l_4 =>
      .pure l_4))
noncomputable def law20_are_F (s0 : List Int) (want1 : List Int) : Option Bool := (law20_are_T s0 want1).run
def law20_are_L : List (Nat × LoopAnn) := [(4, { head := [.sv 0 false (.sl (.int .i64)), .sv 1 false (.sl (.int .i64)), .sv 5 true (.int .i64)], xid := 0, out := [], hasRet := true, res := [.sv 4 true .bool] })]
noncomputable def law20_are_C : List (Nat × Callee) := []
noncomputable def law20_are_fun : Fun := ⟨[.sl (.int .i64), .sl (.int .i64)], [.v .bool], fun x => law20_are_F x.1 x.2.1⟩
theorem law20_are_ev (x : Tys.I [.sl (.int .i64), .sl (.int .i64)]) : evFun G0 (fun f => olook f law20_are_C) ⟨[], [], [], [], []⟩ (fun i => olook i law20_are_L) Try.f25 [.sl (.int .i64), .sl (.int .i64)] [.v .bool] x = law20_are_T x.1 x.2.1 := by kernel_rfl
theorem law20_are_ok : FunOk Try.prog 25 law20_are_fun := evFun_ok mixed ctx0 (no_calls) Try.func25 (by kernel_rfl) _ (fun x => congrArg Tr.run (law20_are_ev x)) (by kernel_rfl) (by kernel_rfl)
/-! ### boustrophedon/lbrule.ends -/
noncomputable def lbrule_ends_T (c0 : Int) : Tr Bool :=
  .br (c0 == 5) (
    .pure true) (
    .br (c0 == 6) (
      .pure true) (
      .br (c0 == 7) (
        .pure true) (
        .pure (c0 == 8))))
noncomputable def lbrule_ends_F (c0 : Int) : Option Bool := (lbrule_ends_T c0).run
def lbrule_ends_L : List (Nat × LoopAnn) := []
noncomputable def lbrule_ends_C : List (Nat × Callee) := []
noncomputable def lbrule_ends_fun : Fun := ⟨[.int .u8], [.v .bool], fun x => lbrule_ends_F x.1⟩
theorem lbrule_ends_ev (x : Tys.I [.int .u8]) : evFun G0 (fun f => olook f lbrule_ends_C) ⟨[], [], [], [], []⟩ (fun i => olook i lbrule_ends_L) Try.f40 [.int .u8] [.v .bool] x = lbrule_ends_T x.1 := by kernel_rfl
theorem lbrule_ends_ok : FunOk Try.prog 40 lbrule_ends_fun := evFun_ok mixed ctx0 (no_calls) Try.func40 (by kernel_rfl) _ (fun x => congrArg Tr.run (lbrule_ends_ev x)) (by kernel_rfl) (by kernel_rfl)
/-! ### (*boustrophedon/lbrule.past).glued -/
noncomputable def lbrule_past_glued_T (p0 : Int × Int × Int × Bool × Bool × Bool × Bool) (c1 : Int) : Tr ((Int × Int × Int × Bool × Bool × Bool × Bool) × Bool) :=
  .bnd (idx ([p0]) 0) fun x_1 =>
  .br (c1 == 12) (
    .br (x_1.1 != 9) (
      .br (x_1.1 != 14) (
        .pure (p0, x_1.1 != 17)) (
        .pure (p0, false))) (
      .pure (p0, false))) (
    .br (c1 == 11) (
      .pure (p0, true)) (
      .br (x_1.1 == 11) (
        .pure (p0, true)) (
        .pure (p0, x_1.1 == 12))))
noncomputable def lbrule_past_glued_F (p0 : Int × Int × Int × Bool × Bool × Bool × Bool) (c1 : Int) : Option ((Int × Int × Int × Bool × Bool × Bool × Bool) × Bool) := (lbrule_past_glued_T p0 c1).run
def lbrule_past_glued_L : List (Nat × LoopAnn) := []
noncomputable def lbrule_past_glued_C : List (Nat × Callee) := []
noncomputable def lbrule_past_glued_fun : BFun := ⟨61, (.st (.pair (.int .u8) (.pair (.int .u8) (.pair (.int .u8) (.pair .bool (.pair .bool (.pair .bool .bool))))))), [.int .u8], [.v .bool], fun s x => lbrule_past_glued_F s x.1⟩
theorem lbrule_past_glued_ev (s : Int × Int × Int × Bool × Bool × Bool × Bool) (x : Tys.I [.int .u8]) : evFunB G0 (fun f => olook f lbrule_past_glued_C) ⟨[], [], [], [], []⟩ (fun i => olook i lbrule_past_glued_L) Try.f41 61 (.st (.pair (.int .u8) (.pair (.int .u8) (.pair (.int .u8) (.pair .bool (.pair .bool (.pair .bool .bool))))))) [.int .u8] [.v .bool] s x = lbrule_past_glued_T s x.1 := by kernel_rfl
theorem lbrule_past_glued_ok : BoxOk Try.prog 41 lbrule_past_glued_fun := evFunB_ok mixed ctx0 (no_calls) Try.func41 (by kernel_rfl) rfl _ (fun s x => congrArg Tr.run (lbrule_past_glued_ev s x)) (by kernel_rfl)
/-! ### (*boustrophedon/lbrule.past).spaced -/
noncomputable def lbrule_past_spaced_T (p0 : Int × Int × Int × Bool × Bool × Bool × Bool) (c1 : Int) : Tr ((Int × Int × Int × Bool × Bool × Bool × Bool) × Bool) :=
  .br (c1 == 19) (
    .pure (p0, true)) (
    .br (c1 == 20) (
      .pure (p0, true)) (
      .br (c1 == 23) (
        .pure (p0, true)) (
        .br (c1 == 25) (
          .pure (p0, true)) (
          .br (c1 == 26) (
            .pure (p0, true)) (
            .bnd (idx ([p0]) 0) fun x_1 =>
            .br (x_1.2.2.1 == 21) (
              .pure (p0, true)) (
              .br (c1 == 21) (
                .bnd (idx ([p0]) 0) fun x_2 =>
                .pure (p0, x_2.2.2.1 == 22)) (
                .br (c1 == 18) (
                  .bnd (idx ([p0]) 0) fun x_3 =>
                  .br (x_3.2.2.1 == 19) (
                    .pure (p0, true)) (
                    .bnd (idx ([p0]) 0) fun x_4 =>
                    .pure (p0, x_4.2.2.1 == 20))) (
                  .br (c1 == 16) (
                    .bnd (idx ([p0]) 0) fun x_5 =>
                    .pure (p0, x_5.2.2.1 == 16)) (
                    .pure (p0, false))))))))))
noncomputable def lbrule_past_spaced_F (p0 : Int × Int × Int × Bool × Bool × Bool × Bool) (c1 : Int) : Option ((Int × Int × Int × Bool × Bool × Bool × Bool) × Bool) := (lbrule_past_spaced_T p0 c1).run
def lbrule_past_spaced_L : List (Nat × LoopAnn) := []
noncomputable def lbrule_past_spaced_C : List (Nat × Callee) := []
noncomputable def lbrule_past_spaced_fun : BFun := ⟨61, (.st (.pair (.int .u8) (.pair (.int .u8) (.pair (.int .u8) (.pair .bool (.pair .bool (.pair .bool .bool))))))), [.int .u8], [.v .bool], fun s x => lbrule_past_spaced_F s x.1⟩
theorem lbrule_past_spaced_ev (s : Int × Int × Int × Bool × Bool × Bool × Bool) (x : Tys.I [.int .u8]) : evFunB G0 (fun f => olook f lbrule_past_spaced_C) ⟨[], [], [], [], []⟩ (fun i => olook i lbrule_past_spaced_L) Try.f42 61 (.st (.pair (.int .u8) (.pair (.int .u8) (.pair (.int .u8) (.pair .bool (.pair .bool (.pair .bool .bool))))))) [.int .u8] [.v .bool] s x = lbrule_past_spaced_T s x.1 := by kernel_rfl
theorem lbrule_past_spaced_ok : BoxOk Try.prog 42 lbrule_past_spaced_fun := evFunB_ok mixed ctx0 (no_calls) Try.func42 (by kernel_rfl) rfl _ (fun s x => congrArg Tr.run (lbrule_past_spaced_ev s x)) (by kernel_rfl)
/-! ### (*boustrophedon/lbrule.past).counted -/
noncomputable def lbrule_past_counted_T (p0 : Int × Int × Int × Bool × Bool × Bool × Bool) (c1 : Int) : Tr ((Int × Int × Int × Bool × Bool × Bool × Bool) × Bool) :=
  .br (c1 == 27) (
    .bnd (idx ([p0]) 0) fun x_1 =>
    .pure (p0, x_1.2.2.2.2.1)) (
    .br (c1 == 29) (
      .bnd (idx ([p0]) 0) fun x_2 =>
      .br x_2.2.2.2.2.1 (
        .pure (p0, true)) (
        .bnd (idx ([p0]) 0) fun x_3 =>
        .pure (p0, x_3.2.2.2.2.2.1))) (
      .br (c1 == 28) (
        .bnd (idx ([p0]) 0) fun x_4 =>
        .br x_4.2.2.2.2.1 (
          .pure (p0, true)) (
          .bnd (idx ([p0]) 0) fun x_5 =>
          .pure (p0, x_5.2.2.2.2.2.1))) (
        .br (c1 == 33) (
          .bnd (idx ([p0]) 0) fun x_6 =>
          .pure (p0, x_6.2.2.2.2.2.2)) (
          .pure (p0, false)))))
noncomputable def lbrule_past_counted_F (p0 : Int × Int × Int × Bool × Bool × Bool × Bool) (c1 : Int) : Option ((Int × Int × Int × Bool × Bool × Bool × Bool) × Bool) := (lbrule_past_counted_T p0 c1).run
def lbrule_past_counted_L : List (Nat × LoopAnn) := []
noncomputable def lbrule_past_counted_C : List (Nat × Callee) := []
noncomputable def lbrule_past_counted_fun : BFun := ⟨61, (.st (.pair (.int .u8) (.pair (.int .u8) (.pair (.int .u8) (.pair .bool (.pair .bool (.pair .bool .bool))))))), [.int .u8], [.v .bool], fun s x => lbrule_past_counted_F s x.1⟩
theorem lbrule_past_counted_ev (s : Int × Int × Int × Bool × Bool × Bool × Bool) (x : Tys.I [.int .u8]) : evFunB G0 (fun f => olook f lbrule_past_counted_C) ⟨[], [], [], [], []⟩ (fun i => olook i lbrule_past_counted_L) Try.f43 61 (.st (.pair (.int .u8) (.pair (.int .u8) (.pair (.int .u8) (.pair .bool (.pair .bool (.pair .bool .bool))))))) [.int .u8] [.v .bool] s x = lbrule_past_counted_T s x.1 := by kernel_rfl
theorem lbrule_past_counted_ok : BoxOk Try.prog 43 lbrule_past_counted_fun := evFunB_ok mixed ctx0 (no_calls) Try.func43 (by kernel_rfl) rfl _ (fun s x => congrArg Tr.run (lbrule_past_counted_ev s x)) (by kernel_rfl)
/-! ### boustrophedon/lbrule.letter -/
noncomputable def lbrule_letter_T (c0 : Int) : Tr Bool :=
  .br (c0 == 1) (
    .pure true) (
    .pure (c0 == 2))
noncomputable def lbrule_letter_F (c0 : Int) : Option Bool := (lbrule_letter_T c0).run
def lbrule_letter_L : List (Nat × LoopAnn) := []
noncomputable def lbrule_letter_C : List (Nat × Callee) := []
noncomputable def lbrule_letter_fun : Fun := ⟨[.int .u8], [.v .bool], fun x => lbrule_letter_F x.1⟩
theorem lbrule_letter_ev (x : Tys.I [.int .u8]) : evFun G0 (fun f => olook f lbrule_letter_C) ⟨[], [], [], [], []⟩ (fun i => olook i lbrule_letter_L) Try.f47 [.int .u8] [.v .bool] x = lbrule_letter_T x.1 := by kernel_rfl
theorem lbrule_letter_ok : FunOk Try.prog 47 lbrule_letter_fun := evFun_ok mixed ctx0 (no_calls) Try.func47 (by kernel_rfl) _ (fun x => congrArg Tr.run (lbrule_letter_ev x)) (by kernel_rfl) (by kernel_rfl)
/-! ### boustrophedon/lbrule.ideograph -/
noncomputable def lbrule_ideograph_T (c0 : Int) : Tr Bool :=
  .br (c0 == 30) (
    .pure true) (
    .br (c0 == 31) (
      .pure true) (
      .pure (c0 == 32)))
noncomputable def lbrule_ideograph_F (c0 : Int) : Option Bool := (lbrule_ideograph_T c0).run
def lbrule_ideograph_L : List (Nat × LoopAnn) := []
noncomputable def lbrule_ideograph_C : List (Nat × Callee) := []
noncomputable def lbrule_ideograph_fun : Fun := ⟨[.int .u8], [.v .bool], fun x => lbrule_ideograph_F x.1⟩
theorem lbrule_ideograph_ev (x : Tys.I [.int .u8]) : evFun G0 (fun f => olook f lbrule_ideograph_C) ⟨[], [], [], [], []⟩ (fun i => olook i lbrule_ideograph_L) Try.f48 [.int .u8] [.v .bool] x = lbrule_ideograph_T x.1 := by kernel_rfl
theorem lbrule_ideograph_ok : FunOk Try.prog 48 lbrule_ideograph_fun := evFun_ok mixed ctx0 (no_calls) Try.func48 (by kernel_rfl) _ (fun x => congrArg Tr.run (lbrule_ideograph_ev x)) (by kernel_rfl) (by kernel_rfl)
/-! ### boustrophedon/lbrule.syllable -/
noncomputable def lbrule_syllable_T (c0 : Int) : Tr Bool :=
  .br (c0 == 34) (
    .pure true) (
    .br (c0 == 35) (
      .pure true) (
      .br (c0 == 36) (
        .pure true) (
        .br (c0 == 37) (
          .pure true) (
          .pure (c0 == 38)))))
noncomputable def lbrule_syllable_F (c0 : Int) : Option Bool := (lbrule_syllable_T c0).run
def lbrule_syllable_L : List (Nat × LoopAnn) := []
noncomputable def lbrule_syllable_C : List (Nat × Callee) := []
noncomputable def lbrule_syllable_fun : Fun := ⟨[.int .u8], [.v .bool], fun x => lbrule_syllable_F x.1⟩
theorem lbrule_syllable_ev (x : Tys.I [.int .u8]) : evFun G0 (fun f => olook f lbrule_syllable_C) ⟨[], [], [], [], []⟩ (fun i => olook i lbrule_syllable_L) Try.f49 [.int .u8] [.v .bool] x = lbrule_syllable_T x.1 := by kernel_rfl
theorem lbrule_syllable_ok : FunOk Try.prog 49 lbrule_syllable_fun := evFun_ok mixed ctx0 (no_calls) Try.func49 (by kernel_rfl) _ (fun x => congrArg Tr.run (lbrule_syllable_ev x)) (by kernel_rfl) (by kernel_rfl)
/-! ### boustrophedon/lbrule.built -/
noncomputable def lbrule_built_T (a0 : Int) (c1 : Int) : Tr Bool :=
  .br (a0 == 34) (
    .br (c1 == 34) (
      .pure true) (
      .br (c1 == 35) (
        .pure true) (
        .br (c1 == 37) (
          .pure true) (
          .br (c1 == 38) (
            .pure true) (
            .pure (c1 == 28)))))) (
    .br (a0 == 35) (
      .br (c1 == 35) (
        .pure true) (
        .br (c1 == 36) (
          .pure true) (
          .pure (c1 == 28)))) (
      .br (a0 == 37) (
        .br (c1 == 35) (
          .pure true) (
          .br (c1 == 36) (
            .pure true) (
            .pure (c1 == 28)))) (
        .br (a0 == 36) (
          .br (c1 == 36) (
            .pure true) (
            .pure (c1 == 28))) (
          .br (a0 == 38) (
            .br (c1 == 36) (
              .pure true) (
              .pure (c1 == 28))) (
            .pure false)))))
noncomputable def lbrule_built_F (a0 : Int) (c1 : Int) : Option Bool := (lbrule_built_T a0 c1).run
def lbrule_built_L : List (Nat × LoopAnn) := []
noncomputable def lbrule_built_C : List (Nat × Callee) := []
noncomputable def lbrule_built_fun : Fun := ⟨[.int .u8, .int .u8], [.v .bool], fun x => lbrule_built_F x.1 x.2.1⟩
theorem lbrule_built_ev (x : Tys.I [.int .u8, .int .u8]) : evFun G0 (fun f => olook f lbrule_built_C) ⟨[], [], [], [], []⟩ (fun i => olook i lbrule_built_L) Try.f50 [.int .u8, .int .u8] [.v .bool] x = lbrule_built_T x.1 x.2.1 := by kernel_rfl
theorem lbrule_built_ok : FunOk Try.prog 50 lbrule_built_fun := evFun_ok mixed ctx0 (no_calls) Try.func50 (by kernel_rfl) _ (fun x => congrArg Tr.run (lbrule_built_ev x)) (by kernel_rfl) (by kernel_rfl)
/-! ### (*boustrophedon/lbrule.past).kept -/
noncomputable def lbrule_past_kept_T (p0 : Int × Int × Int × Bool × Bool × Bool × Bool) (c1 : Int) (next2 : Int) : Tr ((Int × Int × Int × Bool × Bool × Bool × Bool) × Bool) :=
  .br (c1 == 14) (
    .pure (p0, true)) (
    .br (c1 == 17) (
      .pure (p0, true)) (
      .br (c1 == 18) (
        .pure (p0, true)) (
        .br (c1 == 24) (
          .pure (p0, true)) (
          .bnd (idx ([p0]) 0) fun x_1 =>
          .br (x_1.1 == 15) (
            .pure (p0, true)) (
            .br (x_1.1 == 17) (
              .br (c1 == 27) (
                .pure (p0, true)) (
                .bnd (idx ([p0]) 0) fun x_2 =>
                .pure (p0, x_2.2.1 == 2))) (
              .br (x_1.1 == 14) (
                .bnd (idx ([p0]) 0) fun x_3 =>
                .pure (p0, x_3.2.1 == 2)) (
                .br (x_1.1 == 26) (
                  .pure (p0, c1 == 2)) (
                  .br (x_1.1 == 1) (
                    .br (c1 == 27) (
                      .pure (p0, true)) (
                      .br (c1 == 29) (
                        .pure (p0, true)) (
                        .br (c1 == 28) (
                          .pure (p0, true)) (
                          .br (c1 == 21) (
                            .pure (p0, true)) (
                            .bnd (lbrule_letter_F c1) fun c_4 =>
                            .pure (p0, c_4)))))) (
                    .br (x_1.1 == 2) (
                      .br (c1 == 27) (
                        .pure (p0, true)) (
                        .br (c1 == 29) (
                          .pure (p0, true)) (
                          .br (c1 == 28) (
                            .pure (p0, true)) (
                            .br (c1 == 21) (
                              .pure (p0, true)) (
                              .bnd (lbrule_letter_F c1) fun c_5 =>
                              .pure (p0, c_5)))))) (
                      .br (x_1.1 == 25) (
                        .bnd (lbrule_letter_F c1) fun c_6 =>
                        .pure (p0, c_6)) (
                        .br (x_1.1 == 27) (
                          .bnd (lbrule_letter_F c1) fun c_7 =>
                          .br c_7 (
                            .pure (p0, true)) (
                            .pure (p0, c1 == 21))) (
                          .br (x_1.1 == 20) (
                            .bnd (lbrule_letter_F c1) fun c_8 =>
                            .br c_8 (
                              .pure (p0, true)) (
                              .pure (p0, c1 == 27))) (
                            .br (x_1.1 == 29) (
                              .bnd (lbrule_ideograph_F c1) fun c_9 =>
                              .br c_9 (
                                .pure (p0, true)) (
                                .bnd (lbrule_syllable_F c1) fun c_10 =>
                                .br c_10 (
                                  .pure (p0, true)) (
                                  .bnd (lbrule_letter_F c1) fun c_11 =>
                                  .br c_11 (
                                    .pure (p0, true)) (
                                    .br (c1 == 27) (
                                      .pure (p0, true)) (
                                      .br (c1 == 21) (
                                        .pure (p0, next2 == 27)) (
                                        .pure (p0, false))))))) (
                              .br (x_1.1 == 28) (
                                .bnd (lbrule_letter_F c1) fun c_12 =>
                                .br c_12 (
                                  .pure (p0, true)) (
                                  .br (c1 == 27) (
                                    .pure (p0, true)) (
                                    .br (c1 == 21) (
                                      .pure (p0, next2 == 27)) (
                                      .pure (p0, false))))) (
                                .br (x_1.1 == 31) (
                                  .br (c1 == 32) (
                                    .pure (p0, true)) (
                                    .pure (p0, c1 == 28))) (
                                  .br (x_1.1 == 30) (
                                    .pure (p0, c1 == 28)) (
                                    .br (x_1.1 == 32) (
                                      .pure (p0, c1 == 28)) (
                                      .bnd (idx ([p0]) 0) fun x_13 =>
                                      .bnd (lbrule_built_F x_13.1 c1) fun c_14 =>
                                      .pure (p0, c_14)))))))))))))))))))
noncomputable def lbrule_past_kept_F (p0 : Int × Int × Int × Bool × Bool × Bool × Bool) (c1 : Int) (next2 : Int) : Option ((Int × Int × Int × Bool × Bool × Bool × Bool) × Bool) := (lbrule_past_kept_T p0 c1 next2).run
def lbrule_past_kept_L : List (Nat × LoopAnn) := []
noncomputable def lbrule_past_kept_C : List (Nat × Callee) := [(47, .plain lbrule_letter_fun), (48, .plain lbrule_ideograph_fun), (49, .plain lbrule_syllable_fun), (50, .plain lbrule_built_fun)]
noncomputable def lbrule_past_kept_fun : BFun := ⟨61, (.st (.pair (.int .u8) (.pair (.int .u8) (.pair (.int .u8) (.pair .bool (.pair .bool (.pair .bool .bool))))))), [.int .u8, .int .u8], [.v .bool], fun s x => lbrule_past_kept_F s x.1 x.2.1⟩
theorem lbrule_past_kept_ev (s : Int × Int × Int × Bool × Bool × Bool × Bool) (x : Tys.I [.int .u8, .int .u8]) : evFunB G0 (fun f => olook f lbrule_past_kept_C) ⟨[], [], [], [], []⟩ (fun i => olook i lbrule_past_kept_L) Try.f44 61 (.st (.pair (.int .u8) (.pair (.int .u8) (.pair (.int .u8) (.pair .bool (.pair .bool (.pair .bool .bool))))))) [.int .u8, .int .u8] [.v .bool] s x = lbrule_past_kept_T s x.1 x.2.1 := by kernel_rfl
theorem lbrule_past_kept_ok : BoxOk Try.prog 44 lbrule_past_kept_fun := evFunB_ok mixed ctx0 (cons_calls (fb := .plain lbrule_letter_fun) lbrule_letter_ok (fun h => by cases h) (cons_calls (fb := .plain lbrule_ideograph_fun) lbrule_ideograph_ok (fun h => by cases h) (cons_calls (fb := .plain lbrule_syllable_fun) lbrule_syllable_ok (fun h => by cases h) (cons_calls (fb := .plain lbrule_built_fun) lbrule_built_ok (fun h => by cases h) (no_calls))))) Try.func44 (by kernel_rfl) rfl _ (fun s x => congrArg Tr.run (lbrule_past_kept_ev s x)) (by kernel_rfl)
/-! ### (*boustrophedon/lbrule.past).status -/
noncomputable def lbrule_past_status_T (p0 : Int × Int × Int × Bool × Bool × Bool × Bool) (c1 : Int) (next2 : Int) : Tr ((Int × Int × Int × Bool × Bool × Bool × Bool) × Int) :=
  .bnd (idx ([p0]) 0) fun x_1 =>
  .br (x_1.1 == 6) (
    .br (c1 == 7) (
      .pure (p0, 0)) (
      .bnd (lbrule_ends_F x_1.1) fun c_2 =>
      .br c_2 (
        .pure (p0, 2)) (
        .bnd (lbrule_ends_F c1) fun c_3 =>
        .br c_3 (
          .pure (p0, 0)) (
          .br (c1 == 9) (
            .pure (p0, 0)) (
            .br (c1 == 10) (
              .pure (p0, 0)) (
              .bnd (idx ([p0]) 0) fun x_4 =>
              .br (x_4.2.2.1 == 10) (
                .pure (p0, 1)) (
                .bnd (idx ([p0]) 0) fun x_5 =>
                .br x_5.2.2.2.1 (
                  .pure (p0, 0)) (
                  .bnd (idx ([p0]) 0) fun x_6 =>
                  .bnd (lbrule_past_glued_F x_6 c1) fun c_7 =>
                  .br c_7.2 (
                    .pure (c_7.1, 0)) (
                    .bnd (idx ([c_7.1]) 0) fun x_8 =>
                    .bnd (lbrule_past_spaced_F x_8 c1) fun c_9 =>
                    .br c_9.2 (
                      .pure (c_9.1, 0)) (
                      .br (x_1.1 == 9) (
                        .pure (c_9.1, 1)) (
                        .br (c1 == 22) (
                          .pure (c_9.1, 0)) (
                          .br (x_1.1 == 22) (
                            .pure (c_9.1, 0)) (
                            .br (c1 == 13) (
                              .pure (c_9.1, 1)) (
                              .br (x_1.1 == 13) (
                                .pure (c_9.1, 1)) (
                                .bnd (idx ([c_9.1]) 0) fun x_10 =>
                                .bnd (lbrule_past_counted_F x_10 c1) fun c_11 =>
                                .br c_11.2 (
                                  .pure (c_11.1, 0)) (
                                  .bnd (idx ([c_11.1]) 0) fun x_12 =>
                                  .bnd (lbrule_past_kept_F x_12 c1 next2) fun c_13 =>
                                  .br c_13.2 (
                                    .pure (c_13.1, 0)) (
                                    .pure (c_13.1, 1)))))))))))))))))) (
    .bnd (lbrule_ends_F x_1.1) fun c_14 =>
    .br c_14 (
      .pure (p0, 2)) (
      .bnd (lbrule_ends_F c1) fun c_15 =>
      .br c_15 (
        .pure (p0, 0)) (
        .br (c1 == 9) (
          .pure (p0, 0)) (
          .br (c1 == 10) (
            .pure (p0, 0)) (
            .bnd (idx ([p0]) 0) fun x_16 =>
            .br (x_16.2.2.1 == 10) (
              .pure (p0, 1)) (
              .bnd (idx ([p0]) 0) fun x_17 =>
              .br x_17.2.2.2.1 (
                .pure (p0, 0)) (
                .bnd (idx ([p0]) 0) fun x_18 =>
                .bnd (lbrule_past_glued_F x_18 c1) fun c_19 =>
                .br c_19.2 (
                  .pure (c_19.1, 0)) (
                  .bnd (idx ([c_19.1]) 0) fun x_20 =>
                  .bnd (lbrule_past_spaced_F x_20 c1) fun c_21 =>
                  .br c_21.2 (
                    .pure (c_21.1, 0)) (
                    .br (x_1.1 == 9) (
                      .pure (c_21.1, 1)) (
                      .br (c1 == 22) (
                        .pure (c_21.1, 0)) (
                        .br (x_1.1 == 22) (
                          .pure (c_21.1, 0)) (
                          .br (c1 == 13) (
                            .pure (c_21.1, 1)) (
                            .br (x_1.1 == 13) (
                              .pure (c_21.1, 1)) (
                              .bnd (idx ([c_21.1]) 0) fun x_22 =>
                              .bnd (lbrule_past_counted_F x_22 c1) fun c_23 =>
                              .br c_23.2 (
                                .pure (c_23.1, 0)) (
                                .bnd (idx ([c_23.1]) 0) fun x_24 =>
                                .bnd (lbrule_past_kept_F x_24 c1 next2) fun c_25 =>
                                .br c_25.2 (
                                  .pure (c_25.1, 0)) (
                                  .pure (c_25.1, 1)))))))))))))))))
noncomputable def lbrule_past_status_F (p0 : Int × Int × Int × Bool × Bool × Bool × Bool) (c1 : Int) (next2 : Int) : Option ((Int × Int × Int × Bool × Bool × Bool × Bool) × Int) := (lbrule_past_status_T p0 c1 next2).run
def lbrule_past_status_L : List (Nat × LoopAnn) := []
noncomputable def lbrule_past_status_C : List (Nat × Callee) := [(40, .plain lbrule_ends_fun), (41, .lbox lbrule_past_glued_fun), (42, .lbox lbrule_past_spaced_fun), (43, .lbox lbrule_past_counted_fun), (44, .lbox lbrule_past_kept_fun)]
noncomputable def lbrule_past_status_fun : BFun := ⟨61, (.st (.pair (.int .u8) (.pair (.int .u8) (.pair (.int .u8) (.pair .bool (.pair .bool (.pair .bool .bool))))))), [.int .u8, .int .u8], [.v (.int .i64)], fun s x => lbrule_past_status_F s x.1 x.2.1⟩
theorem lbrule_past_status_ev (s : Int × Int × Int × Bool × Bool × Bool × Bool) (x : Tys.I [.int .u8, .int .u8]) : evFunB G0 (fun f => olook f lbrule_past_status_C) ⟨[], [], [41, 42, 43, 44], [], []⟩ (fun i => olook i lbrule_past_status_L) Try.f34 61 (.st (.pair (.int .u8) (.pair (.int .u8) (.pair (.int .u8) (.pair .bool (.pair .bool (.pair .bool .bool))))))) [.int .u8, .int .u8] [.v (.int .i64)] s x = lbrule_past_status_T s x.1 x.2.1 := by kernel_rfl
theorem lbrule_past_status_ok : BoxOk Try.prog 34 lbrule_past_status_fun := evFunB_ok mixed ctx0 (cons_calls (fb := .plain lbrule_ends_fun) lbrule_ends_ok (fun h => by cases h) (cons_calls (fb := .lbox lbrule_past_glued_fun) lbrule_past_glued_ok (fun h => by rfl) (cons_calls (fb := .lbox lbrule_past_spaced_fun) lbrule_past_spaced_ok (fun h => by rfl) (cons_calls (fb := .lbox lbrule_past_counted_fun) lbrule_past_counted_ok (fun h => by rfl) (cons_calls (fb := .lbox lbrule_past_kept_fun) lbrule_past_kept_ok (fun h => by rfl) (no_calls)))))) Try.func34 (by kernel_rfl) rfl _ (fun s x => congrArg Tr.run (lbrule_past_status_ev s x)) (by kernel_rfl)
/-! ### boustrophedon/lbrule.following -/
noncomputable def lbrule_following_T (us0 : List (Int × Int × Int × Bool)) (i1 : Int) : Tr Int :=
  .br (decide ((IntKind.i64.wrap (i1 + 1)) < (us0.length : Int))) (
    .bnd (idx us0 (IntKind.i64.wrap (i1 + 1))) fun x_1 =>
    .pure x_1.2.2.1) (
    .pure 0)
noncomputable def lbrule_following_F (us0 : List (Int × Int × Int × Bool)) (i1 : Int) : Option Int := (lbrule_following_T us0 i1).run
def lbrule_following_L : List (Nat × LoopAnn) := []
noncomputable def lbrule_following_C : List (Nat × Callee) := []
noncomputable def lbrule_following_fun : Fun := ⟨[.sl (.st (.pair (.int .i64) (.pair (.int .i64) (.pair (.int .u8) .bool)))), .int .i64], [.v (.int .u8)], fun x => lbrule_following_F x.1 x.2.1⟩
theorem lbrule_following_ev (x : Tys.I [.sl (.st (.pair (.int .i64) (.pair (.int .i64) (.pair (.int .u8) .bool)))), .int .i64]) : evFun G0 (fun f => olook f lbrule_following_C) ⟨[], [], [], [], []⟩ (fun i => olook i lbrule_following_L) Try.f35 [.sl (.st (.pair (.int .i64) (.pair (.int .i64) (.pair (.int .u8) .bool)))), .int .i64] [.v (.int .u8)] x = lbrule_following_T x.1 x.2.1 := by kernel_rfl
theorem lbrule_following_ok : FunOk Try.prog 35 lbrule_following_fun := evFun_ok mixed ctx0 (no_calls) Try.func35 (by kernel_rfl) _ (fun x => congrArg Tr.run (lbrule_following_ev x)) (by kernel_rfl) (by kernel_rfl)
/-! ### (*boustrophedon/lbrule.past).add -/
noncomputable def lbrule_past_add_T (p0 : Int × Int × Int × Bool × Bool × Bool × Bool) (u1 : Int × Int × Int × Bool) : Tr ((Int × Int × Int × Bool × Bool × Bool × Bool) × Unit) :=
  .bnd (idx ([p0]) 0) fun x_1 =>
  .bnd (idx ([p0]) 0) fun x_2 =>
  .bnd (idx ([(x_2.1, x_1.1, x_2.2.2)]) 0) fun x_3 =>
  .br (u1.2.2.1 != 9) (
    .bnd (idx ([(u1.2.2.1, x_3.2)]) 0) fun x_4 =>
    .bnd (idx ([(x_4.1, x_4.2.1, u1.2.2.1, x_4.2.2.2)]) 0) fun x_5 =>
    .bnd (Tr.run (
    .bnd (idx ([(x_5.1, x_5.2.1, x_5.2.2.1, u1.2.2.2, x_5.2.2.2.2)]) 0) fun x_6 =>
    .br x_6.2.2.2.2.1 (
      .br (u1.2.2.1 == 19) (
        .pure ((x_5.1, x_5.2.1, x_5.2.2.1, u1.2.2.2, x_5.2.2.2.2), u1.2.2.1, true)) (
        .pure ((x_5.1, x_5.2.1, x_5.2.2.1, u1.2.2.2, x_5.2.2.2.2), u1.2.2.1, u1.2.2.1 == 20))) (
      .pure ((x_5.1, x_5.2.1, x_5.2.2.1, u1.2.2.2, x_5.2.2.2.2), u1.2.2.1, false)) : Tr ((Int × Int × Int × Bool × Bool × Bool × Bool) × Int × Bool))) fun j_7 =>
    .bnd (idx ([j_7.1]) 0) fun x_8 =>
    .bnd (Tr.run (
    .br (j_7.2.1 == 27) (
      .pure ((x_8.1, x_8.2.1, x_8.2.2.1, x_8.2.2.2.1, x_8.2.2.2.2.1, j_7.2.2, x_8.2.2.2.2.2.2), j_7.2.1, true)) (
      .bnd (idx ([(x_8.1, x_8.2.1, x_8.2.2.1, x_8.2.2.2.1, x_8.2.2.2.2.1, j_7.2.2, x_8.2.2.2.2.2.2)]) 0) fun x_9 =>
      .br x_9.2.2.2.2.1 (
        .br (j_7.2.1 == 26) (
          .pure ((x_8.1, x_8.2.1, x_8.2.2.1, x_8.2.2.2.1, x_8.2.2.2.2.1, j_7.2.2, x_8.2.2.2.2.2.2), j_7.2.1, true)) (
          .pure ((x_8.1, x_8.2.1, x_8.2.2.1, x_8.2.2.2.1, x_8.2.2.2.2.1, j_7.2.2, x_8.2.2.2.2.2.2), j_7.2.1, j_7.2.1 == 25))) (
        .pure ((x_8.1, x_8.2.1, x_8.2.2.1, x_8.2.2.2.1, x_8.2.2.2.2.1, j_7.2.2, x_8.2.2.2.2.2.2), j_7.2.1, false))) : Tr ((Int × Int × Int × Bool × Bool × Bool × Bool) × Int × Bool))) fun j_10 =>
    .bnd (idx ([j_10.1]) 0) fun x_11 =>
    .br (j_10.2.1 == 33) (
      .bnd (idx ([(x_11.1, x_11.2.1, x_11.2.2.1, x_11.2.2.2.1, j_10.2.2, x_11.2.2.2.2.2)]) 0) fun x_12 =>
      .bnd (idx ([(x_11.1, x_11.2.1, x_11.2.2.1, x_11.2.2.2.1, j_10.2.2, x_11.2.2.2.2.2)]) 0) fun x_13 =>
      .pure ((x_13.1, x_13.2.1, x_13.2.2.1, x_13.2.2.2.1, x_13.2.2.2.2.1, x_13.2.2.2.2.2.1, !x_12.2.2.2.2.2.2), ())) (
      .bnd (idx ([(x_11.1, x_11.2.1, x_11.2.2.1, x_11.2.2.2.1, j_10.2.2, x_11.2.2.2.2.2)]) 0) fun x_14 =>
      .pure ((x_14.1, x_14.2.1, x_14.2.2.1, x_14.2.2.2.1, x_14.2.2.2.2.1, x_14.2.2.2.2.2.1, false), ()))) (
    .bnd (idx ([(u1.2.2.1, x_3.2)]) 0) fun x_15 =>
    .bnd (Tr.run (
    .bnd (idx ([(x_15.1, x_15.2.1, x_15.2.2.1, u1.2.2.2, x_15.2.2.2.2)]) 0) fun x_16 =>
    .br x_16.2.2.2.2.1 (
      .br (u1.2.2.1 == 19) (
        .pure ((x_15.1, x_15.2.1, x_15.2.2.1, u1.2.2.2, x_15.2.2.2.2), u1.2.2.1, true)) (
        .pure ((x_15.1, x_15.2.1, x_15.2.2.1, u1.2.2.2, x_15.2.2.2.2), u1.2.2.1, u1.2.2.1 == 20))) (
      .pure ((x_15.1, x_15.2.1, x_15.2.2.1, u1.2.2.2, x_15.2.2.2.2), u1.2.2.1, false)) : Tr ((Int × Int × Int × Bool × Bool × Bool × Bool) × Int × Bool))) fun j_17 =>
    .bnd (idx ([j_17.1]) 0) fun x_18 =>
    .bnd (Tr.run (
    .br (j_17.2.1 == 27) (
      .pure ((x_18.1, x_18.2.1, x_18.2.2.1, x_18.2.2.2.1, x_18.2.2.2.2.1, j_17.2.2, x_18.2.2.2.2.2.2), j_17.2.1, true)) (
      .bnd (idx ([(x_18.1, x_18.2.1, x_18.2.2.1, x_18.2.2.2.1, x_18.2.2.2.2.1, j_17.2.2, x_18.2.2.2.2.2.2)]) 0) fun x_19 =>
      .br x_19.2.2.2.2.1 (
        .br (j_17.2.1 == 26) (
          .pure ((x_18.1, x_18.2.1, x_18.2.2.1, x_18.2.2.2.1, x_18.2.2.2.2.1, j_17.2.2, x_18.2.2.2.2.2.2), j_17.2.1, true)) (
          .pure ((x_18.1, x_18.2.1, x_18.2.2.1, x_18.2.2.2.1, x_18.2.2.2.2.1, j_17.2.2, x_18.2.2.2.2.2.2), j_17.2.1, j_17.2.1 == 25))) (
        .pure ((x_18.1, x_18.2.1, x_18.2.2.1, x_18.2.2.2.1, x_18.2.2.2.2.1, j_17.2.2, x_18.2.2.2.2.2.2), j_17.2.1, false))) : Tr ((Int × Int × Int × Bool × Bool × Bool × Bool) × Int × Bool))) fun j_20 =>
    .bnd (idx ([j_20.1]) 0) fun x_21 =>
    .br (j_20.2.1 == 33) (
      .bnd (idx ([(x_21.1, x_21.2.1, x_21.2.2.1, x_21.2.2.2.1, j_20.2.2, x_21.2.2.2.2.2)]) 0) fun x_22 =>
      .bnd (idx ([(x_21.1, x_21.2.1, x_21.2.2.1, x_21.2.2.2.1, j_20.2.2, x_21.2.2.2.2.2)]) 0) fun x_23 =>
      .pure ((x_23.1, x_23.2.1, x_23.2.2.1, x_23.2.2.2.1, x_23.2.2.2.2.1, x_23.2.2.2.2.2.1, !x_22.2.2.2.2.2.2), ())) (
      .bnd (idx ([(x_21.1, x_21.2.1, x_21.2.2.1, x_21.2.2.2.1, j_20.2.2, x_21.2.2.2.2.2)]) 0) fun x_24 =>
      .pure ((x_24.1, x_24.2.1, x_24.2.2.1, x_24.2.2.2.1, x_24.2.2.2.2.1, x_24.2.2.2.2.2.1, false), ())))
noncomputable def lbrule_past_add_F (p0 : Int × Int × Int × Bool × Bool × Bool × Bool) (u1 : Int × Int × Int × Bool) : Option ((Int × Int × Int × Bool × Bool × Bool × Bool) × Unit) := (lbrule_past_add_T p0 u1).run
def lbrule_past_add_L : List (Nat × LoopAnn) := []
noncomputable def lbrule_past_add_C : List (Nat × Callee) := []
noncomputable def lbrule_past_add_fun : BFun := ⟨61, (.st (.pair (.int .u8) (.pair (.int .u8) (.pair (.int .u8) (.pair .bool (.pair .bool (.pair .bool .bool))))))), [.st (.pair (.int .i64) (.pair (.int .i64) (.pair (.int .u8) .bool)))], [], fun s x => lbrule_past_add_F s x.1⟩
theorem lbrule_past_add_ev (s : Int × Int × Int × Bool × Bool × Bool × Bool) (x : Tys.I [.st (.pair (.int .i64) (.pair (.int .i64) (.pair (.int .u8) .bool)))]) : evFunB G0 (fun f => olook f lbrule_past_add_C) ⟨[], [], [], [], [(6, [(13, [.slbox 0 61 (.st (.pair (.int .u8) (.pair (.int .u8) (.pair (.int .u8) (.pair .bool (.pair .bool (.pair .bool .bool))))))), .sv 4 true (.int .u8), .slptr 29 (.st (.pair (.int .u8) (.pair (.int .u8) (.pair (.int .u8) (.pair .bool (.pair .bool (.pair .bool .bool))))))), .sv 41 true .bool])]), (7, [(17, [.slbox 0 61 (.st (.pair (.int .u8) (.pair (.int .u8) (.pair (.int .u8) (.pair .bool (.pair .bool (.pair .bool .bool))))))), .sv 4 true (.int .u8), .slptr 44 (.st (.pair (.int .u8) (.pair (.int .u8) (.pair (.int .u8) (.pair .bool (.pair .bool (.pair .bool .bool))))))), .sv 60 true .bool])])]⟩ (fun i => olook i lbrule_past_add_L) Try.f36 61 (.st (.pair (.int .u8) (.pair (.int .u8) (.pair (.int .u8) (.pair .bool (.pair .bool (.pair .bool .bool))))))) [.st (.pair (.int .i64) (.pair (.int .i64) (.pair (.int .u8) .bool)))] [] s x = lbrule_past_add_T s x.1 := by kernel_rfl
theorem lbrule_past_add_ok : BoxOk Try.prog 36 lbrule_past_add_fun := evFunB_ok mixed ctx0 (no_calls) Try.func36 (by kernel_rfl) rfl _ (fun s x => congrArg Tr.run (lbrule_past_add_ev s x)) (by kernel_rfl)
/-! ### boustrophedon/lbrule.Between -/
noncomputable def lbrule_Between_L4 (us0 : List (Int × Int × Int × Bool)) (ss3 : List Int) (p4 : Int × Int × Int × Bool × Bool × Bool × Bool) (t11 : List (Int × Int × Int × Bool)) (t12 : Int) (t13 : Int) : Tr (Lap ((List (Int × Int × Int × Bool)) × List Int × (Int × Int × Int × Bool × Bool × Bool × Bool) × (List (Int × Int × Int × Bool)) × Int × Int) (List Int)) :=
  .br (decide (t13 < t12)) (
    .bnd (idx t11 t13) fun x_2 =>
    .br (decide (t13 > 0)) (
      .bnd (idx ([x_2]) 0) fun x_3 =>
      .bnd (lbrule_following_F us0 t13) fun c_4 =>
      .bnd (idx ([p4]) 0) fun x_5 =>
      .bnd (lbrule_past_status_F x_5 x_3.2.2.1 c_4) fun c_6 =>
      .bnd (idx ss3 t13) fun x_7 =>
      .bnd (idx ([x_2]) 0) fun x_8 =>
      .bnd (idx ([c_6.1]) 0) fun x_9 =>
      .bnd (lbrule_past_add_F x_9 x_8) fun c_10 =>
      .pure (.next (us0, ss3.set (Int.toNat t13) c_6.2, c_10.1, t11, t12, IntKind.i64.wrap (t13 + 1)))) (
      .bnd (idx ([x_2]) 0) fun x_11 =>
      .bnd (idx ([p4]) 0) fun x_12 =>
      .bnd (lbrule_past_add_F x_12 x_11) fun c_13 =>
      .pure (.next (us0, ss3, c_13.1, t11, t12, IntKind.i64.wrap (t13 + 1))))) (
    .pure (.done ss3))
noncomputable def lbrule_Between_T (us0 : List (Int × Int × Int × Bool)) : Tr (List Int) :=
  .bnd (mk 17592186044416 0 (us0.length : Int)) fun r_1 =>
  .bnd (loopW (fun s => (lbrule_Between_L4 s.1 s.2.1 s.2.2.1 s.2.2.2.1 s.2.2.2.2.1 s.2.2.2.2.2).run) (us0, r_1, (0, 0, 9, false, false, false, false), us0, (us0.length : Int), 0)) fun l_14 =>
  .pure l_14
noncomputable def lbrule_Between_F (us0 : List (Int × Int × Int × Bool)) : Option (List Int) := (lbrule_Between_T us0).run
def lbrule_Between_L : List (Nat × LoopAnn) := [(4, { head := [.sv 0 false (.sl (.st (.pair (.int .i64) (.pair (.int .i64) (.pair (.int .u8) .bool))))), .srow 3 1000003 52 true (.int .i64), .sbox 4 1000004 61 true (.st (.pair (.int .u8) (.pair (.int .u8) (.pair (.int .u8) (.pair .bool (.pair .bool (.pair .bool .bool))))))), .sv 11 false (.sl (.st (.pair (.int .i64) (.pair (.int .i64) (.pair (.int .u8) .bool))))), .sv 12 true (.int .i64), .sv 13 true (.int .i64)], xid := 0, out := [.srow 3 1000003 52 true (.int .i64)], hasRet := false, res := [] })]
noncomputable def lbrule_Between_C : List (Nat × Callee) := [(35, .plain lbrule_following_fun), (34, .lbox lbrule_past_status_fun), (36, .lbox lbrule_past_add_fun)]
noncomputable def lbrule_Between_fun : Fun := ⟨[.sl (.st (.pair (.int .i64) (.pair (.int .i64) (.pair (.int .u8) .bool))))], [.row 52 (.int .i64)], fun x => lbrule_Between_F x.1⟩
theorem lbrule_Between_ev (x : Tys.I [.sl (.st (.pair (.int .i64) (.pair (.int .i64) (.pair (.int .u8) .bool))))]) : evFun G0 (fun f => olook f lbrule_Between_C) ⟨[], [], [34, 36], [], []⟩ (fun i => olook i lbrule_Between_L) Try.f26 [.sl (.st (.pair (.int .i64) (.pair (.int .i64) (.pair (.int .u8) .bool))))] [.row 52 (.int .i64)] x = lbrule_Between_T x.1 := by kernel_rfl
theorem lbrule_Between_ok : FunOk Try.prog 26 lbrule_Between_fun := evFun_ok mixed ctx0 (cons_calls (fb := .plain lbrule_following_fun) lbrule_following_ok (fun h => by cases h) (cons_calls (fb := .lbox lbrule_past_status_fun) lbrule_past_status_ok (fun h => by rfl) (cons_calls (fb := .lbox lbrule_past_add_fun) lbrule_past_add_ok (fun h => by rfl) (no_calls)))) Try.func26 (by kernel_rfl) _ (fun x => congrArg Tr.run (lbrule_Between_ev x)) (by kernel_rfl) (by kernel_rfl)
/-! ### boustrophedon/boustrophedonlaw20.of -/
noncomputable def law20_of_L3 (out3 : List (Int × Int × Int × Bool)) (t6 : List Int) (t7 : Int) (t8 : Int) : Tr (Lap ((List (Int × Int × Int × Bool)) × List Int × Int × Int) (List (Int × Int × Int × Bool))) :=
  .br (decide (t8 < t7)) (
    .bnd (idx t6 t8) fun x_1 =>
    .bnd (app 5864062014805 out3 ([(t8, IntKind.i64.wrap (t8 + 1), x_1, false)])) fun r_2 =>
    .pure (.next (r_2, t6, t7, IntKind.i64.wrap (t8 + 1)))) (
    .pure (.done out3))
noncomputable def law20_of_T (cs0 : List Int) : Tr (List (Int × Int × Int × Bool)) :=
  .bnd (loopW (fun s => (law20_of_L3 s.1 s.2.1 s.2.2.1 s.2.2.2).run) ([], cs0, (cs0.length : Int), 0)) fun l_3 =>
  .pure l_3
noncomputable def law20_of_F (cs0 : List Int) : Option (List (Int × Int × Int × Bool)) := (law20_of_T cs0).run
def law20_of_L : List (Nat × LoopAnn) := [(3, { head := [.srow 3 1000003 50 true (.st (.pair (.int .i64) (.pair (.int .i64) (.pair (.int .u8) .bool)))), .sv 6 false (.sl (.int .u8)), .sv 7 true (.int .i64), .sv 8 true (.int .i64)], xid := 0, out := [.srow 3 1000003 50 true (.st (.pair (.int .i64) (.pair (.int .i64) (.pair (.int .u8) .bool))))], hasRet := false, res := [] })]
noncomputable def law20_of_C : List (Nat × Callee) := []
noncomputable def law20_of_fun : Fun := ⟨[.sl (.int .u8)], [.row 50 (.st (.pair (.int .i64) (.pair (.int .i64) (.pair (.int .u8) .bool))))], fun x => law20_of_F x.1⟩
theorem law20_of_ev (x : Tys.I [.sl (.int .u8)]) : evFun G0 (fun f => olook f law20_of_C) ⟨[], [], [], [], []⟩ (fun i => olook i law20_of_L) Try.f28 [.sl (.int .u8)] [.row 50 (.st (.pair (.int .i64) (.pair (.int .i64) (.pair (.int .u8) .bool))))] x = law20_of_T x.1 := by kernel_rfl
theorem law20_of_ok : FunOk Try.prog 28 law20_of_fun := evFun_ok mixed ctx0 (no_calls) Try.func28 (by kernel_rfl) _ (fun x => congrArg Tr.run (law20_of_ev x)) (by kernel_rfl) (by kernel_rfl)
/-! ### boustrophedon/boustrophedonlaw20.awake -/
noncomputable def law20_awake_T : Tr Bool :=
  .bnd (law20_of_F ([1, 9, 1])) fun c_1 =>
  .bnd (lbrule_Between_F c_1) fun c_2 =>
  .bnd (law20_are_F c_2 ([0, 0, 1])) fun c_3 =>
  .br c_3 (
    .bnd (law20_of_F ([6, 7, 1])) fun c_4 =>
    .bnd (lbrule_Between_F c_4) fun c_5 =>
    .bnd (law20_are_F c_5 ([0, 0, 2])) fun c_6 =>
    .br c_6 (
      .bnd (law20_of_F ([33, 33, 33])) fun c_7 =>
      .bnd (lbrule_Between_F c_7) fun c_8 =>
      .bnd (law20_are_F c_8 ([0, 0, 1])) fun c_9 =>
      .br c_9 (
        .bnd (law20_of_F ([29, 21, 27])) fun c_10 =>
        .bnd (lbrule_Between_F c_10) fun c_11 =>
        .bnd (law20_are_F c_11 ([0, 0, 0])) fun c_12 =>
        .br c_12 (
          .bnd (law20_of_F ([22, 9, 21])) fun c_13 =>
          .bnd (lbrule_Between_F c_13) fun c_14 =>
          .bnd (law20_are_F c_14 ([0, 0, 0])) fun c_15 =>
          .pure c_15) (
          .pure false)) (
        .pure false)) (
      .pure false)) (
    .pure false)
noncomputable def law20_awake_F : Option Bool := (law20_awake_T).run
def law20_awake_L : List (Nat × LoopAnn) := []
noncomputable def law20_awake_C : List (Nat × Callee) := [(28, .plain law20_of_fun), (26, .plain lbrule_Between_fun), (25, .plain law20_are_fun)]
noncomputable def law20_awake_fun : Fun := ⟨[], [.v .bool], fun _ => law20_awake_F⟩
theorem law20_awake_ev (x : Tys.I []) : evFun G0 (fun f => olook f law20_awake_C) ⟨[], [], [], [], []⟩ (fun i => olook i law20_awake_L) Try.f22 [] [.v .bool] x = law20_awake_T := by kernel_rfl
theorem law20_awake_ok : FunOk Try.prog 22 law20_awake_fun := evFun_ok mixed ctx0 (cons_calls (fb := .plain law20_of_fun) law20_of_ok (fun h => by cases h) (cons_calls (fb := .plain lbrule_Between_fun) lbrule_Between_ok (fun h => by cases h) (cons_calls (fb := .plain law20_are_fun) law20_are_ok (fun h => by cases h) (no_calls)))) Try.func22 (by kernel_rfl) _ (fun x => congrArg Tr.run (law20_awake_ev x)) (by kernel_rfl) (by kernel_rfl)
/-! ### boustrophedon/lbone.isMark -/
noncomputable def lbone_isMark_T (cs0 : List Int) (widths1 : List Int) (i2 : Int) : Tr Bool :=
  .bnd (idx cs0 i2) fun x_1 =>
  .br (x_1 == 3) (
    .pure true) (
    .br (x_1 == 4) (
      .pure true) (
      .br (x_1 == 40) (
        .br (decide (i2 < (widths1.length : Int))) (
          .bnd (idx widths1 i2) fun x_2 =>
          .pure (x_2 == 0)) (
          .pure false)) (
        .pure false)))
noncomputable def lbone_isMark_F (cs0 : List Int) (widths1 : List Int) (i2 : Int) : Option Bool := (lbone_isMark_T cs0 widths1 i2).run
def lbone_isMark_L : List (Nat × LoopAnn) := []
noncomputable def lbone_isMark_C : List (Nat × Callee) := []
noncomputable def lbone_isMark_fun : Fun := ⟨[.sl (.int .u8), .sl (.int .i64), .int .i64], [.v .bool], fun x => lbone_isMark_F x.1 x.2.1 x.2.2.1⟩
theorem lbone_isMark_ev (x : Tys.I [.sl (.int .u8), .sl (.int .i64), .int .i64]) : evFun G0 (fun f => olook f lbone_isMark_C) ⟨[], [], [], [], []⟩ (fun i => olook i lbone_isMark_L) Try.f31 [.sl (.int .u8), .sl (.int .i64), .int .i64] [.v .bool] x = lbone_isMark_T x.1 x.2.1 x.2.2.1 := by kernel_rfl
theorem lbone_isMark_ok : FunOk Try.prog 31 lbone_isMark_fun := evFun_ok mixed ctx0 (no_calls) Try.func31 (by kernel_rfl) _ (fun x => congrArg Tr.run (lbone_isMark_ev x)) (by kernel_rfl) (by kernel_rfl)
/-! ### boustrophedon/lbone.takesMarks -/
noncomputable def lbone_takesMarks_T (c0 : Int) : Tr Bool :=
  .br (c0 == 5) (
    .pure false) (
    .br (c0 == 6) (
      .pure false) (
      .br (c0 == 7) (
        .pure false) (
        .br (c0 == 8) (
          .pure false) (
          .br (c0 == 9) (
            .pure false) (
            .br (c0 == 10) (
              .pure false) (
              .pure true))))))
noncomputable def lbone_takesMarks_F (c0 : Int) : Option Bool := (lbone_takesMarks_T c0).run
def lbone_takesMarks_L : List (Nat × LoopAnn) := []
noncomputable def lbone_takesMarks_C : List (Nat × Callee) := []
noncomputable def lbone_takesMarks_fun : Fun := ⟨[.int .u8], [.v .bool], fun x => lbone_takesMarks_F x.1⟩
theorem lbone_takesMarks_ev (x : Tys.I [.int .u8]) : evFun G0 (fun f => olook f lbone_takesMarks_C) ⟨[], [], [], [], []⟩ (fun i => olook i lbone_takesMarks_L) Try.f32 [.int .u8] [.v .bool] x = lbone_takesMarks_T x.1 := by kernel_rfl
theorem lbone_takesMarks_ok : FunOk Try.prog 32 lbone_takesMarks_fun := evFun_ok mixed ctx0 (no_calls) Try.func32 (by kernel_rfl) _ (fun x => congrArg Tr.run (lbone_takesMarks_ev x)) (by kernel_rfl) (by kernel_rfl)
/-! ### boustrophedon/lbone.Class -/
noncomputable def lbone_Class_T (c0 : Int) : Tr Int :=
  .br (c0 == 39) (
    .pure 1) (
    .br (c0 == 41) (
      .pure 1) (
      .br (c0 == 0) (
        .pure 1) (
        .br (c0 == 40) (
          .pure 1) (
          .br (c0 == 42) (
            .pure 18) (
            .pure c0)))))
noncomputable def lbone_Class_F (c0 : Int) : Option Int := (lbone_Class_T c0).run
def lbone_Class_L : List (Nat × LoopAnn) := []
noncomputable def lbone_Class_C : List (Nat × Callee) := []
noncomputable def lbone_Class_fun : Fun := ⟨[.int .u8], [.v (.int .u8)], fun x => lbone_Class_F x.1⟩
theorem lbone_Class_ev (x : Tys.I [.int .u8]) : evFun G0 (fun f => olook f lbone_Class_C) ⟨[], [], [], [], []⟩ (fun i => olook i lbone_Class_L) Try.f33 [.int .u8] [.v (.int .u8)] x = lbone_Class_T x.1 := by kernel_rfl
theorem lbone_Class_ok : FunOk Try.prog 33 lbone_Class_fun := evFun_ok mixed ctx0 (no_calls) Try.func33 (by kernel_rfl) _ (fun x => congrArg Tr.run (lbone_Class_ev x)) (by kernel_rfl) (by kernel_rfl)
/-! ### boustrophedon/lbone.Units -/
noncomputable def lbone_Units_L3 (cs0 : List Int) (widths1 : List Int) (us5 : List (Int × Int × Int × Bool)) (t12 : Int) (t13 : Int) : Tr (Lap (List Int × List Int × (List (Int × Int × Int × Bool)) × Int × Int) (List (Int × Int × Int × Bool))) :=
  .br (decide (t13 < t12)) (
    .bnd (lbone_isMark_F cs0 widths1 t13) fun c_1 =>
    .bnd (idx cs0 t13) fun x_2 =>
    .br c_1 (
      .br (decide ((IntKind.i64.wrap ((us5.length : Int) - 1)) ≥ 0)) (
        .bnd (idx us5 (IntKind.i64.wrap ((us5.length : Int) - 1))) fun x_3 =>
        .bnd (lbone_takesMarks_F x_3.2.2.1) fun c_4 =>
        .br c_4 (
          .bnd (idx us5 (IntKind.i64.wrap ((us5.length : Int) - 1))) fun x_5 =>
          .bnd (idx us5 (IntKind.i64.wrap ((us5.length : Int) - 1))) fun x_6 =>
          .bnd (idx (us5.set (Int.toNat (IntKind.i64.wrap ((us5.length : Int) - 1))) (x_6.1, IntKind.i64.wrap (t13 + 1), x_6.2.2)) (IntKind.i64.wrap ((us5.length : Int) - 1))) fun x_7 =>
          .bnd (idx (us5.set (Int.toNat (IntKind.i64.wrap ((us5.length : Int) - 1))) (x_6.1, IntKind.i64.wrap (t13 + 1), x_6.2.2)) (IntKind.i64.wrap ((us5.length : Int) - 1))) fun x_8 =>
          .pure (.next (cs0, widths1, (us5.set (Int.toNat (IntKind.i64.wrap ((us5.length : Int) - 1))) (x_6.1, IntKind.i64.wrap (t13 + 1), x_6.2.2)).set (Int.toNat (IntKind.i64.wrap ((us5.length : Int) - 1))) (x_8.1, x_8.2.1, x_8.2.2.1, x_2 == 4), t12, IntKind.i64.wrap (t13 + 1)))) (
          .bnd (idx cs0 t13) fun x_9 =>
          .bnd (lbone_Class_F x_9) fun c_10 =>
          .br c_1 (
            .bnd (app 5864062014805 us5 ([(t13, IntKind.i64.wrap (t13 + 1), 1, x_2 == 4)])) fun r_11 =>
            .pure (.next (cs0, widths1, r_11, t12, IntKind.i64.wrap (t13 + 1)))) (
            .bnd (app 5864062014805 us5 ([(t13, IntKind.i64.wrap (t13 + 1), c_10, x_2 == 4)])) fun r_12 =>
            .pure (.next (cs0, widths1, r_12, t12, IntKind.i64.wrap (t13 + 1)))))) (
        .bnd (idx cs0 t13) fun x_13 =>
        .bnd (lbone_Class_F x_13) fun c_14 =>
        .br c_1 (
          .bnd (app 5864062014805 us5 ([(t13, IntKind.i64.wrap (t13 + 1), 1, x_2 == 4)])) fun r_15 =>
          .pure (.next (cs0, widths1, r_15, t12, IntKind.i64.wrap (t13 + 1)))) (
          .bnd (app 5864062014805 us5 ([(t13, IntKind.i64.wrap (t13 + 1), c_14, x_2 == 4)])) fun r_16 =>
          .pure (.next (cs0, widths1, r_16, t12, IntKind.i64.wrap (t13 + 1)))))) (
      .bnd (idx cs0 t13) fun x_17 =>
      .bnd (lbone_Class_F x_17) fun c_18 =>
      .br c_1 (
        .bnd (app 5864062014805 us5 ([(t13, IntKind.i64.wrap (t13 + 1), 1, x_2 == 4)])) fun r_19 =>
        .pure (.next (cs0, widths1, r_19, t12, IntKind.i64.wrap (t13 + 1)))) (
        .bnd (app 5864062014805 us5 ([(t13, IntKind.i64.wrap (t13 + 1), c_18, x_2 == 4)])) fun r_20 =>
        .pure (.next (cs0, widths1, r_20, t12, IntKind.i64.wrap (t13 + 1)))))) (
    .pure (.done us5))
noncomputable def lbone_Units_T (cs0 : List Int) (widths1 : List Int) : Tr (List (Int × Int × Int × Bool)) :=
  .bnd (loopW (fun s => (lbone_Units_L3 s.1 s.2.1 s.2.2.1 s.2.2.2.1 s.2.2.2.2).run) (cs0, widths1, [], (cs0.length : Int), 0)) fun l_21 =>
  .pure l_21
noncomputable def lbone_Units_F (cs0 : List Int) (widths1 : List Int) : Option (List (Int × Int × Int × Bool)) := (lbone_Units_T cs0 widths1).run
def lbone_Units_L : List (Nat × LoopAnn) := [(3, { head := [.sv 0 false (.sl (.int .u8)), .sv 1 false (.sl (.int .i64)), .srow 5 1000005 50 true (.st (.pair (.int .i64) (.pair (.int .i64) (.pair (.int .u8) .bool)))), .sv 12 true (.int .i64), .sv 13 true (.int .i64)], xid := 0, out := [.srow 5 1000005 50 true (.st (.pair (.int .i64) (.pair (.int .i64) (.pair (.int .u8) .bool))))], hasRet := false, res := [] })]
noncomputable def lbone_Units_C : List (Nat × Callee) := [(31, .plain lbone_isMark_fun), (32, .plain lbone_takesMarks_fun), (33, .plain lbone_Class_fun)]
noncomputable def lbone_Units_fun : Fun := ⟨[.sl (.int .u8), .sl (.int .i64)], [.row 50 (.st (.pair (.int .i64) (.pair (.int .i64) (.pair (.int .u8) .bool))))], fun x => lbone_Units_F x.1 x.2.1⟩
theorem lbone_Units_ev (x : Tys.I [.sl (.int .u8), .sl (.int .i64)]) : evFun G0 (fun f => olook f lbone_Units_C) ⟨[], [], [], [], []⟩ (fun i => olook i lbone_Units_L) Try.f23 [.sl (.int .u8), .sl (.int .i64)] [.row 50 (.st (.pair (.int .i64) (.pair (.int .i64) (.pair (.int .u8) .bool))))] x = lbone_Units_T x.1 x.2.1 := by kernel_rfl
theorem lbone_Units_ok : FunOk Try.prog 23 lbone_Units_fun := evFun_ok mixed ctx0 (cons_calls (fb := .plain lbone_isMark_fun) lbone_isMark_ok (fun h => by cases h) (cons_calls (fb := .plain lbone_takesMarks_fun) lbone_takesMarks_ok (fun h => by cases h) (cons_calls (fb := .plain lbone_Class_fun) lbone_Class_ok (fun h => by cases h) (no_calls)))) Try.func23 (by kernel_rfl) _ (fun x => congrArg Tr.run (lbone_Units_ev x)) (by kernel_rfl) (by kernel_rfl)
/-! ### boustrophedon/boustrophedonlaw19.Classes -/
noncomputable def law19_Classes_L3 (ns0 : List Int) (out3 : List Int) (k4 : Int) : Tr (Lap (List Int × List Int × Int) (List Int)) :=
  .br (decide (k4 < (ns0.length : Int))) (
    .bnd (idx ns0 k4) fun x_1 =>
    .bnd (app 140737488355328 out3 ([x_1.tmod 43])) fun r_2 =>
    .pure (.next (ns0, r_2, IntKind.i64.wrap (k4 + 1)))) (
    .pure (.done out3))
noncomputable def law19_Classes_T (ns0 : List Int) : Tr (List Int) :=
  .bnd (loopW (fun s => (law19_Classes_L3 s.1 s.2.1 s.2.2).run) (ns0, [], 0)) fun l_3 =>
  .pure l_3
noncomputable def law19_Classes_F (ns0 : List Int) : Option (List Int) := (law19_Classes_T ns0).run
def law19_Classes_L : List (Nat × LoopAnn) := [(3, { head := [.sv 0 false (.sl (.int .u8)), .srow 3 1000003 48 true (.int .u8), .sv 4 true (.int .i64)], xid := 0, out := [.srow 3 1000003 48 true (.int .u8)], hasRet := false, res := [] })]
noncomputable def law19_Classes_C : List (Nat × Callee) := []
noncomputable def law19_Classes_fun : Fun := ⟨[.sl (.int .u8)], [.row 48 (.int .u8)], fun x => law19_Classes_F x.1⟩
theorem law19_Classes_ev (x : Tys.I [.sl (.int .u8)]) : evFun G0 (fun f => olook f law19_Classes_C) ⟨[], [], [], [], []⟩ (fun i => olook i law19_Classes_L) Try.f24 [.sl (.int .u8)] [.row 48 (.int .u8)] x = law19_Classes_T x.1 := by kernel_rfl
theorem law19_Classes_ok : FunOk Try.prog 24 law19_Classes_fun := evFun_ok mixed ctx0 (no_calls) Try.func24 (by kernel_rfl) _ (fun x => congrArg Tr.run (law19_Classes_ev x)) (by kernel_rfl) (by kernel_rfl)
/-! ### boustrophedon/boustrophedonref20.overSpaces -/
noncomputable def ref20_overSpaces_L2 (us0 : List (Int × Bool)) (i5 : Int) : Tr (Lap ((List (Int × Bool)) × Int) (Sum Unit Int)) :=
  .br (decide (i5 ≥ 0)) (
    .bnd (idx us0 i5) fun x_1 =>
    .br (x_1.1 != 9) (
      .bnd (idx us0 i5) fun x_2 =>
      .pure (.done (.inr x_2.1))) (
      .pure (.next (us0, IntKind.i64.wrap (i5 - 1))))) (
    .pure (.done (.inl ())))
noncomputable def ref20_overSpaces_T (us0 : List (Int × Bool)) (k1 : Int) : Tr Int :=
  .alt (loopW (fun s => (ref20_overSpaces_L2 s.1 s.2).run) (us0, IntKind.i64.wrap (k1 - 1))) (fun l_3 =>
    .pure (-1)) (fun l_4 =>
    .pure l_4)
noncomputable def ref20_overSpaces_F (us0 : List (Int × Bool)) (k1 : Int) : Option Int := (ref20_overSpaces_T us0 k1).run
def ref20_overSpaces_L : List (Nat × LoopAnn) := [(2, { head := [.sv 0 false (.sl (.st (.pair (.int .i64) .bool))), .sv 5 true (.int .i64)], xid := 0, out := [], hasRet := true, res := [.sv 4 false (.int .i64)] })]
noncomputable def ref20_overSpaces_C : List (Nat × Callee) := []
noncomputable def ref20_overSpaces_fun : Fun := ⟨[.sl (.st (.pair (.int .i64) .bool)), .int .i64], [.v (.int .i64)], fun x => ref20_overSpaces_F x.1 x.2.1⟩
theorem ref20_overSpaces_ev (x : Tys.I [.sl (.st (.pair (.int .i64) .bool)), .int .i64]) : evFun G0 (fun f => olook f ref20_overSpaces_C) ⟨[], [], [], [], []⟩ (fun i => olook i ref20_overSpaces_L) Try.f45 [.sl (.st (.pair (.int .i64) .bool)), .int .i64] [.v (.int .i64)] x = ref20_overSpaces_T x.1 x.2.1 := by kernel_rfl
theorem ref20_overSpaces_ok : FunOk Try.prog 45 ref20_overSpaces_fun := evFun_ok mixed ctx0 (no_calls) Try.func45 (by kernel_rfl) _ (fun x => congrArg Tr.run (ref20_overSpaces_ev x)) (by kernel_rfl) (by kernel_rfl)
/-! ### boustrophedon/boustrophedonref20.letter -/
noncomputable def ref20_letter_T (c0 : Int) : Tr Bool :=
  .br (c0 == 1) (
    .pure true) (
    .pure (c0 == 2))
noncomputable def ref20_letter_F (c0 : Int) : Option Bool := (ref20_letter_T c0).run
def ref20_letter_L : List (Nat × LoopAnn) := []
noncomputable def ref20_letter_C : List (Nat × Callee) := []
noncomputable def ref20_letter_fun : Fun := ⟨[.int .i64], [.v .bool], fun x => ref20_letter_F x.1⟩
theorem ref20_letter_ev (x : Tys.I [.int .i64]) : evFun G0 (fun f => olook f ref20_letter_C) ⟨[], [], [], [], []⟩ (fun i => olook i ref20_letter_L) Try.f51 [.int .i64] [.v .bool] x = ref20_letter_T x.1 := by kernel_rfl
theorem ref20_letter_ok : FunOk Try.prog 51 ref20_letter_fun := evFun_ok mixed ctx0 (no_calls) Try.func51 (by kernel_rfl) _ (fun x => congrArg Tr.run (ref20_letter_ev x)) (by kernel_rfl) (by kernel_rfl)
/-! ### boustrophedon/boustrophedonref20.picture -/
noncomputable def ref20_picture_T (c0 : Int) : Tr Bool :=
  .br (c0 == 30) (
    .pure true) (
    .br (c0 == 31) (
      .pure true) (
      .pure (c0 == 32)))
noncomputable def ref20_picture_F (c0 : Int) : Option Bool := (ref20_picture_T c0).run
def ref20_picture_L : List (Nat × LoopAnn) := []
noncomputable def ref20_picture_C : List (Nat × Callee) := []
noncomputable def ref20_picture_fun : Fun := ⟨[.int .i64], [.v .bool], fun x => ref20_picture_F x.1⟩
theorem ref20_picture_ev (x : Tys.I [.int .i64]) : evFun G0 (fun f => olook f ref20_picture_C) ⟨[], [], [], [], []⟩ (fun i => olook i ref20_picture_L) Try.f52 [.int .i64] [.v .bool] x = ref20_picture_T x.1 := by kernel_rfl
theorem ref20_picture_ok : FunOk Try.prog 52 ref20_picture_fun := evFun_ok mixed ctx0 (no_calls) Try.func52 (by kernel_rfl) _ (fun x => congrArg Tr.run (ref20_picture_ev x)) (by kernel_rfl) (by kernel_rfl)
/-! ### boustrophedon/boustrophedonref20.money -/
noncomputable def ref20_money_T (c0 : Int) : Tr Bool :=
  .br (c0 == 29) (
    .pure true) (
    .pure (c0 == 28))
noncomputable def ref20_money_F (c0 : Int) : Option Bool := (ref20_money_T c0).run
def ref20_money_L : List (Nat × LoopAnn) := []
noncomputable def ref20_money_C : List (Nat × Callee) := []
noncomputable def ref20_money_fun : Fun := ⟨[.int .i64], [.v .bool], fun x => ref20_money_F x.1⟩
theorem ref20_money_ev (x : Tys.I [.int .i64]) : evFun G0 (fun f => olook f ref20_money_C) ⟨[], [], [], [], []⟩ (fun i => olook i ref20_money_L) Try.f53 [.int .i64] [.v .bool] x = ref20_money_T x.1 := by kernel_rfl
theorem ref20_money_ok : FunOk Try.prog 53 ref20_money_fun := evFun_ok mixed ctx0 (no_calls) Try.func53 (by kernel_rfl) _ (fun x => congrArg Tr.run (ref20_money_ev x)) (by kernel_rfl) (by kernel_rfl)
/-! ### boustrophedon/boustrophedonref20.numeric -/
noncomputable def ref20_numeric_L2 (us0 : List (Int × Bool)) (i5 : Int) : Tr (Lap ((List (Int × Bool)) × Int) (Sum Unit Bool)) :=
  .br (decide (i5 ≥ 0)) (
    .bnd (idx us0 i5) fun x_1 =>
    .br (x_1.1 == 27) (
      .pure (.done (.inr true))) (
      .bnd (idx us0 i5) fun x_2 =>
      .br (x_2.1 != 26) (
        .bnd (idx us0 i5) fun x_3 =>
        .br (x_3.1 != 25) (
          .pure (.done (.inr false))) (
          .pure (.next (us0, IntKind.i64.wrap (i5 - 1))))) (
        .pure (.next (us0, IntKind.i64.wrap (i5 - 1)))))) (
    .pure (.done (.inl ())))
noncomputable def ref20_numeric_T (us0 : List (Int × Bool)) (k1 : Int) : Tr Bool :=
  .alt (loopW (fun s => (ref20_numeric_L2 s.1 s.2).run) (us0, IntKind.i64.wrap (k1 - 1))) (fun l_4 =>
    .pure false) (fun l_5 =>
    .pure l_5)
noncomputable def ref20_numeric_F (us0 : List (Int × Bool)) (k1 : Int) : Option Bool := (ref20_numeric_T us0 k1).run
def ref20_numeric_L : List (Nat × LoopAnn) := [(2, { head := [.sv 0 false (.sl (.st (.pair (.int .i64) .bool))), .sv 5 true (.int .i64)], xid := 0, out := [], hasRet := true, res := [.sv 4 true .bool] })]
noncomputable def ref20_numeric_C : List (Nat × Callee) := []
noncomputable def ref20_numeric_fun : Fun := ⟨[.sl (.st (.pair (.int .i64) .bool)), .int .i64], [.v .bool], fun x => ref20_numeric_F x.1 x.2.1⟩
theorem ref20_numeric_ev (x : Tys.I [.sl (.st (.pair (.int .i64) .bool)), .int .i64]) : evFun G0 (fun f => olook f ref20_numeric_C) ⟨[], [], [], [], []⟩ (fun i => olook i ref20_numeric_L) Try.f54 [.sl (.st (.pair (.int .i64) .bool)), .int .i64] [.v .bool] x = ref20_numeric_T x.1 x.2.1 := by kernel_rfl
theorem ref20_numeric_ok : FunOk Try.prog 54 ref20_numeric_fun := evFun_ok mixed ctx0 (no_calls) Try.func54 (by kernel_rfl) _ (fun x => congrArg Tr.run (ref20_numeric_ev x)) (by kernel_rfl) (by kernel_rfl)
/-! ### boustrophedon/boustrophedonref20.korean -/
noncomputable def ref20_korean_T (c0 : Int) : Tr Bool :=
  .br (c0 == 34) (
    .pure true) (
    .br (c0 == 35) (
      .pure true) (
      .br (c0 == 36) (
        .pure true) (
        .br (c0 == 37) (
          .pure true) (
          .pure (c0 == 38)))))
noncomputable def ref20_korean_F (c0 : Int) : Option Bool := (ref20_korean_T c0).run
def ref20_korean_L : List (Nat × LoopAnn) := []
noncomputable def ref20_korean_C : List (Nat × Callee) := []
noncomputable def ref20_korean_fun : Fun := ⟨[.int .i64], [.v .bool], fun x => ref20_korean_F x.1⟩
theorem ref20_korean_ev (x : Tys.I [.int .i64]) : evFun G0 (fun f => olook f ref20_korean_C) ⟨[], [], [], [], []⟩ (fun i => olook i ref20_korean_L) Try.f55 [.int .i64] [.v .bool] x = ref20_korean_T x.1 := by kernel_rfl
theorem ref20_korean_ok : FunOk Try.prog 55 ref20_korean_fun := evFun_ok mixed ctx0 (no_calls) Try.func55 (by kernel_rfl) _ (fun x => congrArg Tr.run (ref20_korean_ev x)) (by kernel_rfl) (by kernel_rfl)
/-! ### boustrophedon/boustrophedonref20.odd -/
noncomputable def ref20_odd_L3 (us0 : List (Int × Bool)) (n5 : Int) (i6 : Int) : Tr (Lap ((List (Int × Bool)) × Int × Int) Int) :=
  .br (decide (i6 ≥ 0)) (
    .bnd (idx us0 i6) fun x_1 =>
    .br (x_1.1 == 33) (
      .pure (.next (us0, IntKind.i64.wrap (n5 + 1), IntKind.i64.wrap (i6 - 1)))) (
      .pure (.done n5))) (
    .pure (.done n5))
noncomputable def ref20_odd_T (us0 : List (Int × Bool)) (k1 : Int) : Tr Bool :=
  .bnd (loopW (fun s => (ref20_odd_L3 s.1 s.2.1 s.2.2).run) (us0, 0, IntKind.i64.wrap (k1 - 1))) fun l_2 =>
  .pure ((l_2.tmod 2) == 1)
noncomputable def ref20_odd_F (us0 : List (Int × Bool)) (k1 : Int) : Option Bool := (ref20_odd_T us0 k1).run
def ref20_odd_L : List (Nat × LoopAnn) := [(3, { head := [.sv 0 false (.sl (.st (.pair (.int .i64) .bool))), .sv 5 true (.int .i64), .sv 6 true (.int .i64)], xid := 0, out := [.sv 5 true (.int .i64)], hasRet := false, res := [] })]
noncomputable def ref20_odd_C : List (Nat × Callee) := []
noncomputable def ref20_odd_fun : Fun := ⟨[.sl (.st (.pair (.int .i64) .bool)), .int .i64], [.v .bool], fun x => ref20_odd_F x.1 x.2.1⟩
theorem ref20_odd_ev (x : Tys.I [.sl (.st (.pair (.int .i64) .bool)), .int .i64]) : evFun G0 (fun f => olook f ref20_odd_C) ⟨[], [], [], [], []⟩ (fun i => olook i ref20_odd_L) Try.f56 [.sl (.st (.pair (.int .i64) .bool)), .int .i64] [.v .bool] x = ref20_odd_T x.1 x.2.1 := by kernel_rfl
theorem ref20_odd_ok : FunOk Try.prog 56 ref20_odd_fun := evFun_ok mixed ctx0 (no_calls) Try.func56 (by kernel_rfl) _ (fun x => congrArg Tr.run (ref20_odd_ev x)) (by kernel_rfl) (by kernel_rfl)
/-! ### boustrophedon/boustrophedonref20.stays -/
noncomputable def ref20_stays_T (us0 : List (Int × Bool)) (k1 : Int) (a2 : Int) (c3 : Int) : Tr Bool :=
  .bnd (Tr.run (
    .br (c3 == 14) (
      .pure (us0, k1, a2, c3, true)) (
      .br (c3 == 17) (
        .pure (us0, k1, a2, c3, true)) (
        .pure (us0, k1, a2, c3, c3 == 18))) : Tr ((List (Int × Bool)) × Int × Int × Int × Bool))) fun j_1 =>
  .br j_1.2.2.2.2 (
    .pure true) (
    .br (j_1.2.2.2.1 == 24) (
      .pure true) (
      .br (j_1.2.2.1 == 15) (
        .pure true) (
        .bnd (Tr.run (
    .bnd (Tr.run (
    .br (j_1.2.2.1 == 17) (
      .pure (j_1.1, j_1.2.1, j_1.2.2.1, j_1.2.2.2.1, decide (j_1.2.1 ≥ 2))) (
      .br (j_1.2.2.1 == 14) (
        .pure (j_1.1, j_1.2.1, j_1.2.2.1, j_1.2.2.2.1, decide (j_1.2.1 ≥ 2))) (
        .pure (j_1.1, j_1.2.1, j_1.2.2.1, j_1.2.2.2.1, false))) : Tr ((List (Int × Bool)) × Int × Int × Int × Bool))) fun j_2 =>
    .br j_2.2.2.2.2 (
      .bnd (idx j_2.1 (IntKind.i64.wrap (j_2.2.1 - 2))) fun x_3 =>
      .br (x_3.1 == 2) (
        .pure (j_2.1, j_2.2.1, j_2.2.2.1, j_2.2.2.2.1, true)) (
        .br (j_2.2.2.1 == 26) (
          .pure (j_2.1, j_2.2.1, j_2.2.2.1, j_2.2.2.2.1, j_2.2.2.2.1 == 2)) (
          .pure (j_2.1, j_2.2.1, j_2.2.2.1, j_2.2.2.2.1, false)))) (
      .br (j_2.2.2.1 == 26) (
        .pure (j_2.1, j_2.2.1, j_2.2.2.1, j_2.2.2.2.1, j_2.2.2.2.1 == 2)) (
        .pure (j_2.1, j_2.2.1, j_2.2.2.1, j_2.2.2.2.1, false))) : Tr ((List (Int × Bool)) × Int × Int × Int × Bool))) fun j_4 =>
        .br j_4.2.2.2.2 (
          .pure true) (
          .bnd (Tr.run (
    .bnd (ref20_letter_F j_4.2.2.1) fun c_5 =>
    .br c_5 (
      .br (j_4.2.2.2.1 == 27) (
        .pure (j_4.1, j_4.2.1, j_4.2.2.1, j_4.2.2.2.1, true)) (
        .br (j_4.2.2.1 == 27) (
          .bnd (ref20_letter_F j_4.2.2.2.1) fun c_6 =>
          .pure (j_4.1, j_4.2.1, j_4.2.2.1, j_4.2.2.2.1, c_6)) (
          .pure (j_4.1, j_4.2.1, j_4.2.2.1, j_4.2.2.2.1, false)))) (
      .br (j_4.2.2.1 == 27) (
        .bnd (ref20_letter_F j_4.2.2.2.1) fun c_7 =>
        .pure (j_4.1, j_4.2.1, j_4.2.2.1, j_4.2.2.2.1, c_7)) (
        .pure (j_4.1, j_4.2.1, j_4.2.2.1, j_4.2.2.2.1, false))) : Tr ((List (Int × Bool)) × Int × Int × Int × Bool))) fun j_8 =>
          .bnd (Tr.run (
    .br j_8.2.2.2.2 (
      .pure (j_8.1, j_8.2.1, j_8.2.2.1, j_8.2.2.2.1, true)) (
      .br (j_8.2.2.1 == 29) (
        .bnd (ref20_picture_F j_8.2.2.2.1) fun c_9 =>
        .pure (j_8.1, j_8.2.1, j_8.2.2.1, j_8.2.2.2.1, c_9)) (
        .pure (j_8.1, j_8.2.1, j_8.2.2.1, j_8.2.2.2.1, false))) : Tr ((List (Int × Bool)) × Int × Int × Int × Bool))) fun j_10 =>
          .bnd (Tr.run (
    .br j_10.2.2.2.2 (
      .pure (j_10.1, j_10.2.1, j_10.2.2.1, j_10.2.2.2.1, true)) (
      .bnd (ref20_picture_F j_10.2.2.1) fun c_11 =>
      .br c_11 (
        .pure (j_10.1, j_10.2.1, j_10.2.2.1, j_10.2.2.2.1, j_10.2.2.2.1 == 28)) (
        .pure (j_10.1, j_10.2.1, j_10.2.2.1, j_10.2.2.2.1, false))) : Tr ((List (Int × Bool)) × Int × Int × Int × Bool))) fun j_12 =>
          .bnd (Tr.run (
    .br j_12.2.2.2.2 (
      .pure (j_12.1, j_12.2.1, j_12.2.2.1, j_12.2.2.2.1, true)) (
      .bnd (ref20_money_F j_12.2.2.1) fun c_13 =>
      .br c_13 (
        .bnd (ref20_letter_F j_12.2.2.2.1) fun c_14 =>
        .pure (j_12.1, j_12.2.1, j_12.2.2.1, j_12.2.2.2.1, c_14)) (
        .pure (j_12.1, j_12.2.1, j_12.2.2.1, j_12.2.2.2.1, false))) : Tr ((List (Int × Bool)) × Int × Int × Int × Bool))) fun j_15 =>
          .br j_15.2.2.2.2 (
            .pure true) (
            .bnd (ref20_letter_F j_15.2.2.1) fun c_16 =>
            .br c_16 (
              .bnd (ref20_money_F j_15.2.2.2.1) fun c_17 =>
              .br c_17 (
                .pure true) (
                .bnd (Tr.run (
    .bnd (Tr.run (
    .bnd (ref20_money_F j_15.2.2.1) fun c_18 =>
    .br c_18 (
      .br (j_15.2.2.2.1 == 27) (
        .pure (j_15.1, j_15.2.1, j_15.2.2.1, j_15.2.2.2.1, true)) (
        .br (j_15.2.2.2.1 == 21) (
          .br (decide ((IntKind.i64.wrap (j_15.2.1 + 1)) < (j_15.1.length : Int))) (
            .bnd (idx j_15.1 (IntKind.i64.wrap (j_15.2.1 + 1))) fun x_19 =>
            .pure (j_15.1, j_15.2.1, j_15.2.2.1, j_15.2.2.2.1, x_19.1 == 27)) (
            .pure (j_15.1, j_15.2.1, j_15.2.2.1, j_15.2.2.2.1, false))) (
          .br (j_15.2.2.2.1 == 17) (
            .br (decide ((IntKind.i64.wrap (j_15.2.1 + 1)) < (j_15.1.length : Int))) (
              .bnd (idx j_15.1 (IntKind.i64.wrap (j_15.2.1 + 1))) fun x_20 =>
              .pure (j_15.1, j_15.2.1, j_15.2.2.1, j_15.2.2.2.1, x_20.1 == 27)) (
              .pure (j_15.1, j_15.2.1, j_15.2.2.1, j_15.2.2.2.1, false))) (
            .pure (j_15.1, j_15.2.1, j_15.2.2.1, j_15.2.2.2.1, false))))) (
      .pure (j_15.1, j_15.2.1, j_15.2.2.1, j_15.2.2.2.1, false)) : Tr ((List (Int × Bool)) × Int × Int × Int × Bool))) fun j_21 =>
    .br j_21.2.2.2.2 (
      .pure (j_21.1, j_21.2.1, j_21.2.2.1, j_21.2.2.2.1, true)) (
      .br (j_21.2.2.1 == 21) (
        .pure (j_21.1, j_21.2.1, j_21.2.2.1, j_21.2.2.2.1, j_21.2.2.2.1 == 27)) (
        .br (j_21.2.2.1 == 17) (
          .pure (j_21.1, j_21.2.1, j_21.2.2.1, j_21.2.2.2.1, j_21.2.2.2.1 == 27)) (
          .pure (j_21.1, j_21.2.1, j_21.2.2.1, j_21.2.2.2.1, false)))) : Tr ((List (Int × Bool)) × Int × Int × Int × Bool))) fun j_22 =>
                .br j_22.2.2.2.2 (
                  .pure true) (
                  .bnd (Tr.run (
    .bnd (ref20_numeric_F j_22.1 j_22.2.1) fun c_23 =>
    .br c_23 (
      .br (j_22.2.2.2.1 == 27) (
        .pure (j_22.1, j_22.2.1, j_22.2.2.1, j_22.2.2.2.1, true)) (
        .bnd (ref20_money_F j_22.2.2.2.1) fun c_24 =>
        .br c_24 (
          .bnd (ref20_numeric_F j_22.1 j_22.2.1) fun c_25 =>
          .br c_25 (
            .pure (j_22.1, j_22.2.1, j_22.2.2.1, j_22.2.2.2.1, true)) (
            .br (j_22.2.2.1 == 19) (
              .bnd (ref20_numeric_F j_22.1 (IntKind.i64.wrap (j_22.2.1 - 1))) fun c_26 =>
              .pure (j_22.1, j_22.2.1, j_22.2.2.1, j_22.2.2.2.1, c_26)) (
              .br (j_22.2.2.1 == 20) (
                .bnd (ref20_numeric_F j_22.1 (IntKind.i64.wrap (j_22.2.1 - 1))) fun c_27 =>
                .pure (j_22.1, j_22.2.1, j_22.2.2.1, j_22.2.2.2.1, c_27)) (
                .pure (j_22.1, j_22.2.1, j_22.2.2.1, j_22.2.2.2.1, false))))) (
          .pure (j_22.1, j_22.2.1, j_22.2.2.1, j_22.2.2.2.1, false)))) (
      .bnd (ref20_money_F j_22.2.2.2.1) fun c_28 =>
      .br c_28 (
        .bnd (ref20_numeric_F j_22.1 j_22.2.1) fun c_29 =>
        .br c_29 (
          .pure (j_22.1, j_22.2.1, j_22.2.2.1, j_22.2.2.2.1, true)) (
          .br (j_22.2.2.1 == 19) (
            .bnd (ref20_numeric_F j_22.1 (IntKind.i64.wrap (j_22.2.1 - 1))) fun c_30 =>
            .pure (j_22.1, j_22.2.1, j_22.2.2.1, j_22.2.2.2.1, c_30)) (
            .br (j_22.2.2.1 == 20) (
              .bnd (ref20_numeric_F j_22.1 (IntKind.i64.wrap (j_22.2.1 - 1))) fun c_31 =>
              .pure (j_22.1, j_22.2.1, j_22.2.2.1, j_22.2.2.2.1, c_31)) (
              .pure (j_22.1, j_22.2.1, j_22.2.2.1, j_22.2.2.2.1, false))))) (
        .pure (j_22.1, j_22.2.1, j_22.2.2.1, j_22.2.2.2.1, false))) : Tr ((List (Int × Bool)) × Int × Int × Int × Bool))) fun j_32 =>
                  .br j_32.2.2.2.2 (
                    .pure true) (
                    .bnd (Tr.run (
    .bnd (Tr.run (
    .br (j_32.2.2.1 == 34) (
      .br (j_32.2.2.2.1 == 34) (
        .pure (j_32.1, j_32.2.1, j_32.2.2.1, j_32.2.2.2.1, true)) (
        .br (j_32.2.2.2.1 == 35) (
          .pure (j_32.1, j_32.2.1, j_32.2.2.1, j_32.2.2.2.1, true)) (
          .br (j_32.2.2.2.1 == 37) (
            .pure (j_32.1, j_32.2.1, j_32.2.2.1, j_32.2.2.2.1, true)) (
            .pure (j_32.1, j_32.2.1, j_32.2.2.1, j_32.2.2.2.1, j_32.2.2.2.1 == 38))))) (
      .pure (j_32.1, j_32.2.1, j_32.2.2.1, j_32.2.2.2.1, false)) : Tr ((List (Int × Bool)) × Int × Int × Int × Bool))) fun j_33 =>
    .bnd (Tr.run (
    .br j_33.2.2.2.2 (
      .pure (j_33.1, j_33.2.1, j_33.2.2.1, j_33.2.2.2.1, true)) (
      .br (j_33.2.2.1 == 35) (
        .br (j_33.2.2.2.1 == 35) (
          .pure (j_33.1, j_33.2.1, j_33.2.2.1, j_33.2.2.2.1, true)) (
          .pure (j_33.1, j_33.2.1, j_33.2.2.1, j_33.2.2.2.1, j_33.2.2.2.1 == 36))) (
        .br (j_33.2.2.1 == 37) (
          .br (j_33.2.2.2.1 == 35) (
            .pure (j_33.1, j_33.2.1, j_33.2.2.1, j_33.2.2.2.1, true)) (
            .pure (j_33.1, j_33.2.1, j_33.2.2.1, j_33.2.2.2.1, j_33.2.2.2.1 == 36))) (
          .pure (j_33.1, j_33.2.1, j_33.2.2.1, j_33.2.2.2.1, false)))) : Tr ((List (Int × Bool)) × Int × Int × Int × Bool))) fun j_34 =>
    .br j_34.2.2.2.2 (
      .pure (j_34.1, j_34.2.1, j_34.2.2.1, j_34.2.2.2.1, true)) (
      .br (j_34.2.2.1 == 36) (
        .pure (j_34.1, j_34.2.1, j_34.2.2.1, j_34.2.2.2.1, j_34.2.2.2.1 == 36)) (
        .br (j_34.2.2.1 == 38) (
          .pure (j_34.1, j_34.2.1, j_34.2.2.1, j_34.2.2.2.1, j_34.2.2.2.1 == 36)) (
          .pure (j_34.1, j_34.2.1, j_34.2.2.1, j_34.2.2.2.1, false)))) : Tr ((List (Int × Bool)) × Int × Int × Int × Bool))) fun j_35 =>
                    .br j_35.2.2.2.2 (
                      .pure true) (
                      .bnd (Tr.run (
    .bnd (Tr.run (
    .bnd (ref20_korean_F j_35.2.2.1) fun c_36 =>
    .br c_36 (
      .br (j_35.2.2.2.1 == 28) (
        .pure (j_35.1, j_35.2.1, j_35.2.2.1, j_35.2.2.2.1, true)) (
        .br (j_35.2.2.1 == 29) (
          .bnd (ref20_korean_F j_35.2.2.2.1) fun c_37 =>
          .pure (j_35.1, j_35.2.1, j_35.2.2.1, j_35.2.2.2.1, c_37)) (
          .pure (j_35.1, j_35.2.1, j_35.2.2.1, j_35.2.2.2.1, false)))) (
      .br (j_35.2.2.1 == 29) (
        .bnd (ref20_korean_F j_35.2.2.2.1) fun c_38 =>
        .pure (j_35.1, j_35.2.1, j_35.2.2.1, j_35.2.2.2.1, c_38)) (
        .pure (j_35.1, j_35.2.1, j_35.2.2.1, j_35.2.2.2.1, false))) : Tr ((List (Int × Bool)) × Int × Int × Int × Bool))) fun j_39 =>
    .bnd (Tr.run (
    .br j_39.2.2.2.2 (
      .pure (j_39.1, j_39.2.1, j_39.2.2.1, j_39.2.2.2.1, true)) (
      .bnd (ref20_letter_F j_39.2.2.1) fun c_40 =>
      .br c_40 (
        .bnd (ref20_letter_F j_39.2.2.2.1) fun c_41 =>
        .pure (j_39.1, j_39.2.1, j_39.2.2.1, j_39.2.2.2.1, c_41)) (
        .br (j_39.2.2.1 == 25) (
          .bnd (ref20_letter_F j_39.2.2.2.1) fun c_42 =>
          .pure (j_39.1, j_39.2.1, j_39.2.2.1, j_39.2.2.2.1, c_42)) (
          .pure (j_39.1, j_39.2.1, j_39.2.2.1, j_39.2.2.2.1, false)))) : Tr ((List (Int × Bool)) × Int × Int × Int × Bool))) fun j_43 =>
    .bnd (Tr.run (
    .br j_43.2.2.2.2 (
      .pure (j_43.1, j_43.2.1, j_43.2.2.1, j_43.2.2.2.1, true)) (
      .bnd (ref20_letter_F j_43.2.2.1) fun c_44 =>
      .br c_44 (
        .pure (j_43.1, j_43.2.1, j_43.2.2.1, j_43.2.2.2.1, j_43.2.2.2.1 == 21)) (
        .br (j_43.2.2.1 == 27) (
          .pure (j_43.1, j_43.2.1, j_43.2.2.1, j_43.2.2.2.1, j_43.2.2.2.1 == 21)) (
          .pure (j_43.1, j_43.2.1, j_43.2.2.1, j_43.2.2.2.1, false)))) : Tr ((List (Int × Bool)) × Int × Int × Int × Bool))) fun j_45 =>
    .br j_45.2.2.2.2 (
      .pure (j_45.1, j_45.2.1, j_45.2.2.1, j_45.2.2.2.1, true)) (
      .br (j_45.2.2.1 == 20) (
        .bnd (ref20_letter_F j_45.2.2.2.1) fun c_46 =>
        .br c_46 (
          .pure (j_45.1, j_45.2.1, j_45.2.2.1, j_45.2.2.2.1, true)) (
          .pure (j_45.1, j_45.2.1, j_45.2.2.1, j_45.2.2.2.1, j_45.2.2.2.1 == 27))) (
        .pure (j_45.1, j_45.2.1, j_45.2.2.1, j_45.2.2.2.1, false))) : Tr ((List (Int × Bool)) × Int × Int × Int × Bool))) fun j_47 =>
                      .br j_47.2.2.2.2 (
                        .pure true) (
                        .bnd (Tr.run (
    .br (j_47.2.2.2.1 == 33) (
      .bnd (ref20_odd_F j_47.1 j_47.2.1) fun c_48 =>
      .br c_48 (
        .pure true) (
        .br (j_47.2.2.1 == 31) (
          .pure (j_47.2.2.2.1 == 32)) (
          .pure false))) (
      .br (j_47.2.2.1 == 31) (
        .pure (j_47.2.2.2.1 == 32)) (
        .pure false)) : Tr Bool)) fun j_49 =>
                        .pure j_49)))))) (
              .bnd (Tr.run (
    .bnd (Tr.run (
    .bnd (ref20_money_F j_15.2.2.1) fun c_50 =>
    .br c_50 (
      .br (j_15.2.2.2.1 == 27) (
        .pure (j_15.1, j_15.2.1, j_15.2.2.1, j_15.2.2.2.1, true)) (
        .br (j_15.2.2.2.1 == 21) (
          .br (decide ((IntKind.i64.wrap (j_15.2.1 + 1)) < (j_15.1.length : Int))) (
            .bnd (idx j_15.1 (IntKind.i64.wrap (j_15.2.1 + 1))) fun x_51 =>
            .pure (j_15.1, j_15.2.1, j_15.2.2.1, j_15.2.2.2.1, x_51.1 == 27)) (
            .pure (j_15.1, j_15.2.1, j_15.2.2.1, j_15.2.2.2.1, false))) (
          .br (j_15.2.2.2.1 == 17) (
            .br (decide ((IntKind.i64.wrap (j_15.2.1 + 1)) < (j_15.1.length : Int))) (
              .bnd (idx j_15.1 (IntKind.i64.wrap (j_15.2.1 + 1))) fun x_52 =>
              .pure (j_15.1, j_15.2.1, j_15.2.2.1, j_15.2.2.2.1, x_52.1 == 27)) (
              .pure (j_15.1, j_15.2.1, j_15.2.2.1, j_15.2.2.2.1, false))) (
            .pure (j_15.1, j_15.2.1, j_15.2.2.1, j_15.2.2.2.1, false))))) (
      .pure (j_15.1, j_15.2.1, j_15.2.2.1, j_15.2.2.2.1, false)) : Tr ((List (Int × Bool)) × Int × Int × Int × Bool))) fun j_53 =>
    .br j_53.2.2.2.2 (
      .pure (j_53.1, j_53.2.1, j_53.2.2.1, j_53.2.2.2.1, true)) (
      .br (j_53.2.2.1 == 21) (
        .pure (j_53.1, j_53.2.1, j_53.2.2.1, j_53.2.2.2.1, j_53.2.2.2.1 == 27)) (
        .br (j_53.2.2.1 == 17) (
          .pure (j_53.1, j_53.2.1, j_53.2.2.1, j_53.2.2.2.1, j_53.2.2.2.1 == 27)) (
          .pure (j_53.1, j_53.2.1, j_53.2.2.1, j_53.2.2.2.1, false)))) : Tr ((List (Int × Bool)) × Int × Int × Int × Bool))) fun j_54 =>
              .br j_54.2.2.2.2 (
                .pure true) (
                .bnd (Tr.run (
    .bnd (ref20_numeric_F j_54.1 j_54.2.1) fun c_55 =>
    .br c_55 (
      .br (j_54.2.2.2.1 == 27) (
        .pure (j_54.1, j_54.2.1, j_54.2.2.1, j_54.2.2.2.1, true)) (
        .bnd (ref20_money_F j_54.2.2.2.1) fun c_56 =>
        .br c_56 (
          .bnd (ref20_numeric_F j_54.1 j_54.2.1) fun c_57 =>
          .br c_57 (
            .pure (j_54.1, j_54.2.1, j_54.2.2.1, j_54.2.2.2.1, true)) (
            .br (j_54.2.2.1 == 19) (
              .bnd (ref20_numeric_F j_54.1 (IntKind.i64.wrap (j_54.2.1 - 1))) fun c_58 =>
              .pure (j_54.1, j_54.2.1, j_54.2.2.1, j_54.2.2.2.1, c_58)) (
              .br (j_54.2.2.1 == 20) (
                .bnd (ref20_numeric_F j_54.1 (IntKind.i64.wrap (j_54.2.1 - 1))) fun c_59 =>
                .pure (j_54.1, j_54.2.1, j_54.2.2.1, j_54.2.2.2.1, c_59)) (
                .pure (j_54.1, j_54.2.1, j_54.2.2.1, j_54.2.2.2.1, false))))) (
          .pure (j_54.1, j_54.2.1, j_54.2.2.1, j_54.2.2.2.1, false)))) (
      .bnd (ref20_money_F j_54.2.2.2.1) fun c_60 =>
      .br c_60 (
        .bnd (ref20_numeric_F j_54.1 j_54.2.1) fun c_61 =>
        .br c_61 (
          .pure (j_54.1, j_54.2.1, j_54.2.2.1, j_54.2.2.2.1, true)) (
          .br (j_54.2.2.1 == 19) (
            .bnd (ref20_numeric_F j_54.1 (IntKind.i64.wrap (j_54.2.1 - 1))) fun c_62 =>
            .pure (j_54.1, j_54.2.1, j_54.2.2.1, j_54.2.2.2.1, c_62)) (
            .br (j_54.2.2.1 == 20) (
              .bnd (ref20_numeric_F j_54.1 (IntKind.i64.wrap (j_54.2.1 - 1))) fun c_63 =>
              .pure (j_54.1, j_54.2.1, j_54.2.2.1, j_54.2.2.2.1, c_63)) (
              .pure (j_54.1, j_54.2.1, j_54.2.2.1, j_54.2.2.2.1, false))))) (
        .pure (j_54.1, j_54.2.1, j_54.2.2.1, j_54.2.2.2.1, false))) : Tr ((List (Int × Bool)) × Int × Int × Int × Bool))) fun j_64 =>
                .br j_64.2.2.2.2 (
                  .pure true) (
                  .bnd (Tr.run (
    .bnd (Tr.run (
    .br (j_64.2.2.1 == 34) (
      .br (j_64.2.2.2.1 == 34) (
        .pure (j_64.1, j_64.2.1, j_64.2.2.1, j_64.2.2.2.1, true)) (
        .br (j_64.2.2.2.1 == 35) (
          .pure (j_64.1, j_64.2.1, j_64.2.2.1, j_64.2.2.2.1, true)) (
          .br (j_64.2.2.2.1 == 37) (
            .pure (j_64.1, j_64.2.1, j_64.2.2.1, j_64.2.2.2.1, true)) (
            .pure (j_64.1, j_64.2.1, j_64.2.2.1, j_64.2.2.2.1, j_64.2.2.2.1 == 38))))) (
      .pure (j_64.1, j_64.2.1, j_64.2.2.1, j_64.2.2.2.1, false)) : Tr ((List (Int × Bool)) × Int × Int × Int × Bool))) fun j_65 =>
    .bnd (Tr.run (
    .br j_65.2.2.2.2 (
      .pure (j_65.1, j_65.2.1, j_65.2.2.1, j_65.2.2.2.1, true)) (
      .br (j_65.2.2.1 == 35) (
        .br (j_65.2.2.2.1 == 35) (
          .pure (j_65.1, j_65.2.1, j_65.2.2.1, j_65.2.2.2.1, true)) (
          .pure (j_65.1, j_65.2.1, j_65.2.2.1, j_65.2.2.2.1, j_65.2.2.2.1 == 36))) (
        .br (j_65.2.2.1 == 37) (
          .br (j_65.2.2.2.1 == 35) (
            .pure (j_65.1, j_65.2.1, j_65.2.2.1, j_65.2.2.2.1, true)) (
            .pure (j_65.1, j_65.2.1, j_65.2.2.1, j_65.2.2.2.1, j_65.2.2.2.1 == 36))) (
          .pure (j_65.1, j_65.2.1, j_65.2.2.1, j_65.2.2.2.1, false)))) : Tr ((List (Int × Bool)) × Int × Int × Int × Bool))) fun j_66 =>
    .br j_66.2.2.2.2 (
      .pure (j_66.1, j_66.2.1, j_66.2.2.1, j_66.2.2.2.1, true)) (
      .br (j_66.2.2.1 == 36) (
        .pure (j_66.1, j_66.2.1, j_66.2.2.1, j_66.2.2.2.1, j_66.2.2.2.1 == 36)) (
        .br (j_66.2.2.1 == 38) (
          .pure (j_66.1, j_66.2.1, j_66.2.2.1, j_66.2.2.2.1, j_66.2.2.2.1 == 36)) (
          .pure (j_66.1, j_66.2.1, j_66.2.2.1, j_66.2.2.2.1, false)))) : Tr ((List (Int × Bool)) × Int × Int × Int × Bool))) fun j_67 =>
                  .br j_67.2.2.2.2 (
                    .pure true) (
                    .bnd (Tr.run (
    .bnd (Tr.run (
    .bnd (ref20_korean_F j_67.2.2.1) fun c_68 =>
    .br c_68 (
      .br (j_67.2.2.2.1 == 28) (
        .pure (j_67.1, j_67.2.1, j_67.2.2.1, j_67.2.2.2.1, true)) (
        .br (j_67.2.2.1 == 29) (
          .bnd (ref20_korean_F j_67.2.2.2.1) fun c_69 =>
          .pure (j_67.1, j_67.2.1, j_67.2.2.1, j_67.2.2.2.1, c_69)) (
          .pure (j_67.1, j_67.2.1, j_67.2.2.1, j_67.2.2.2.1, false)))) (
      .br (j_67.2.2.1 == 29) (
        .bnd (ref20_korean_F j_67.2.2.2.1) fun c_70 =>
        .pure (j_67.1, j_67.2.1, j_67.2.2.1, j_67.2.2.2.1, c_70)) (
        .pure (j_67.1, j_67.2.1, j_67.2.2.1, j_67.2.2.2.1, false))) : Tr ((List (Int × Bool)) × Int × Int × Int × Bool))) fun j_71 =>
    .bnd (Tr.run (
    .br j_71.2.2.2.2 (
      .pure (j_71.1, j_71.2.1, j_71.2.2.1, j_71.2.2.2.1, true)) (
      .bnd (ref20_letter_F j_71.2.2.1) fun c_72 =>
      .br c_72 (
        .bnd (ref20_letter_F j_71.2.2.2.1) fun c_73 =>
        .pure (j_71.1, j_71.2.1, j_71.2.2.1, j_71.2.2.2.1, c_73)) (
        .br (j_71.2.2.1 == 25) (
          .bnd (ref20_letter_F j_71.2.2.2.1) fun c_74 =>
          .pure (j_71.1, j_71.2.1, j_71.2.2.1, j_71.2.2.2.1, c_74)) (
          .pure (j_71.1, j_71.2.1, j_71.2.2.1, j_71.2.2.2.1, false)))) : Tr ((List (Int × Bool)) × Int × Int × Int × Bool))) fun j_75 =>
    .bnd (Tr.run (
    .br j_75.2.2.2.2 (
      .pure (j_75.1, j_75.2.1, j_75.2.2.1, j_75.2.2.2.1, true)) (
      .bnd (ref20_letter_F j_75.2.2.1) fun c_76 =>
      .br c_76 (
        .pure (j_75.1, j_75.2.1, j_75.2.2.1, j_75.2.2.2.1, j_75.2.2.2.1 == 21)) (
        .br (j_75.2.2.1 == 27) (
          .pure (j_75.1, j_75.2.1, j_75.2.2.1, j_75.2.2.2.1, j_75.2.2.2.1 == 21)) (
          .pure (j_75.1, j_75.2.1, j_75.2.2.1, j_75.2.2.2.1, false)))) : Tr ((List (Int × Bool)) × Int × Int × Int × Bool))) fun j_77 =>
    .br j_77.2.2.2.2 (
      .pure (j_77.1, j_77.2.1, j_77.2.2.1, j_77.2.2.2.1, true)) (
      .br (j_77.2.2.1 == 20) (
        .bnd (ref20_letter_F j_77.2.2.2.1) fun c_78 =>
        .br c_78 (
          .pure (j_77.1, j_77.2.1, j_77.2.2.1, j_77.2.2.2.1, true)) (
          .pure (j_77.1, j_77.2.1, j_77.2.2.1, j_77.2.2.2.1, j_77.2.2.2.1 == 27))) (
        .pure (j_77.1, j_77.2.1, j_77.2.2.1, j_77.2.2.2.1, false))) : Tr ((List (Int × Bool)) × Int × Int × Int × Bool))) fun j_79 =>
                    .br j_79.2.2.2.2 (
                      .pure true) (
                      .bnd (Tr.run (
    .br (j_79.2.2.2.1 == 33) (
      .bnd (ref20_odd_F j_79.1 j_79.2.1) fun c_80 =>
      .br c_80 (
        .pure true) (
        .br (j_79.2.2.1 == 31) (
          .pure (j_79.2.2.2.1 == 32)) (
          .pure false))) (
      .br (j_79.2.2.1 == 31) (
        .pure (j_79.2.2.2.1 == 32)) (
        .pure false)) : Tr Bool)) fun j_81 =>
                      .pure j_81))))))))))
noncomputable def ref20_stays_F (us0 : List (Int × Bool)) (k1 : Int) (a2 : Int) (c3 : Int) : Option Bool := (ref20_stays_T us0 k1 a2 c3).run
def ref20_stays_L : List (Nat × LoopAnn) := []
noncomputable def ref20_stays_C : List (Nat × Callee) := [(51, .plain ref20_letter_fun), (52, .plain ref20_picture_fun), (53, .plain ref20_money_fun), (54, .plain ref20_numeric_fun), (55, .plain ref20_korean_fun), (56, .plain ref20_odd_fun)]
noncomputable def ref20_stays_fun : Fun := ⟨[.sl (.st (.pair (.int .i64) .bool)), .int .i64, .int .i64, .int .i64], [.v .bool], fun x => ref20_stays_F x.1 x.2.1 x.2.2.1 x.2.2.2.1⟩
theorem ref20_stays_ev (x : Tys.I [.sl (.st (.pair (.int .i64) .bool)), .int .i64, .int .i64, .int .i64]) : evFun G0 (fun f => olook f ref20_stays_C) ⟨[], [], [], [(3, [.sv 0 false (.sl (.st (.pair (.int .i64) .bool))), .sv 1 false (.int .i64), .sv 2 false (.int .i64), .sv 3 false (.int .i64), .sv 53 true .bool]), (7, [.sv 0 false (.sl (.st (.pair (.int .i64) .bool))), .sv 1 false (.int .i64), .sv 2 false (.int .i64), .sv 3 false (.int .i64), .sv 141 true .bool]), (9, [.sv 0 false (.sl (.st (.pair (.int .i64) .bool))), .sv 1 false (.int .i64), .sv 2 false (.int .i64), .sv 3 false (.int .i64), .sv 171 true .bool]), (11, [.sv 0 false (.sl (.st (.pair (.int .i64) .bool))), .sv 1 false (.int .i64), .sv 2 false (.int .i64), .sv 3 false (.int .i64), .sv 217 true .bool]), (13, [.sv 0 false (.sl (.st (.pair (.int .i64) .bool))), .sv 1 false (.int .i64), .sv 2 false (.int .i64), .sv 3 false (.int .i64), .sv 267 true .bool])], [(1, [(10, [.sv 0 false (.sl (.st (.pair (.int .i64) .bool))), .sv 1 false (.int .i64), .sv 2 false (.int .i64), .sv 3 false (.int .i64), .sv 18 true .bool])]), (3, [(10, [.sv 0 false (.sl (.st (.pair (.int .i64) .bool))), .sv 1 false (.int .i64), .sv 2 false (.int .i64), .sv 3 false (.int .i64), .sv 36 true .bool])]), (5, [(14, [.sv 0 false (.sl (.st (.pair (.int .i64) .bool))), .sv 1 false (.int .i64), .sv 2 false (.int .i64), .sv 3 false (.int .i64), .sv 67 true .bool]), (8, [.sv 0 false (.sl (.st (.pair (.int .i64) .bool))), .sv 1 false (.int .i64), .sv 2 false (.int .i64), .sv 3 false (.int .i64), .sv 75 true .bool]), (8, [.sv 0 false (.sl (.st (.pair (.int .i64) .bool))), .sv 1 false (.int .i64), .sv 2 false (.int .i64), .sv 3 false (.int .i64), .sv 83 true .bool]), (8, [.sv 0 false (.sl (.st (.pair (.int .i64) .bool))), .sv 1 false (.int .i64), .sv 2 false (.int .i64), .sv 3 false (.int .i64), .sv 91 true .bool])]), (7, [(30, [.sv 0 false (.sl (.st (.pair (.int .i64) .bool))), .sv 1 false (.int .i64), .sv 2 false (.int .i64), .sv 3 false (.int .i64), .sv 129 true .bool])]), (11, [(18, [.sv 0 false (.sl (.st (.pair (.int .i64) .bool))), .sv 1 false (.int .i64), .sv 2 false (.int .i64), .sv 3 false (.int .i64), .sv 189 true .bool]), (16, [.sv 0 false (.sl (.st (.pair (.int .i64) .bool))), .sv 1 false (.int .i64), .sv 2 false (.int .i64), .sv 3 false (.int .i64), .sv 205 true .bool])]), (13, [(14, [.sv 0 false (.sl (.st (.pair (.int .i64) .bool))), .sv 1 false (.int .i64), .sv 2 false (.int .i64), .sv 3 false (.int .i64), .sv 231 true .bool]), (12, [.sv 0 false (.sl (.st (.pair (.int .i64) .bool))), .sv 1 false (.int .i64), .sv 2 false (.int .i64), .sv 3 false (.int .i64), .sv 243 true .bool]), (12, [.sv 0 false (.sl (.st (.pair (.int .i64) .bool))), .sv 1 false (.int .i64), .sv 2 false (.int .i64), .sv 3 false (.int .i64), .sv 255 true .bool])]), (15, [(15, [.sv 282 true .bool])])]⟩ (fun i => olook i ref20_stays_L) Try.f46 [.sl (.st (.pair (.int .i64) .bool)), .int .i64, .int .i64, .int .i64] [.v .bool] x = ref20_stays_T x.1 x.2.1 x.2.2.1 x.2.2.2.1 := by kernel_rfl
theorem ref20_stays_ok : FunOk Try.prog 46 ref20_stays_fun := evFun_ok mixed ctx0 (cons_calls (fb := .plain ref20_letter_fun) ref20_letter_ok (fun h => by cases h) (cons_calls (fb := .plain ref20_picture_fun) ref20_picture_ok (fun h => by cases h) (cons_calls (fb := .plain ref20_money_fun) ref20_money_ok (fun h => by cases h) (cons_calls (fb := .plain ref20_numeric_fun) ref20_numeric_ok (fun h => by cases h) (cons_calls (fb := .plain ref20_korean_fun) ref20_korean_ok (fun h => by cases h) (cons_calls (fb := .plain ref20_odd_fun) ref20_odd_ok (fun h => by cases h) (no_calls))))))) Try.func46 (by kernel_rfl) _ (fun x => congrArg Tr.run (ref20_stays_ev x)) (by kernel_rfl) (by kernel_rfl)
/-! ### boustrophedon/boustrophedonref20.Status -/
noncomputable def ref20_Status_T (us0 : List (Int × Bool)) (k1 : Int) : Tr Int :=
  .br (decide (k1 ≤ 0)) (
    .pure 0) (
    .bnd (idx us0 (IntKind.i64.wrap (k1 - 1))) fun x_1 =>
    .bnd (idx us0 k1) fun x_2 =>
    .br (x_1.1 == 6) (
      .br (x_2.1 == 7) (
        .pure 0) (
        .bnd (Tr.run (
    .br (x_1.1 == 5) (
      .pure (us0, k1, x_1.1, x_2.1, true)) (
      .br (x_1.1 == 6) (
        .pure (us0, k1, x_1.1, x_2.1, true)) (
        .pure (us0, k1, x_1.1, x_2.1, x_1.1 == 7))) : Tr ((List (Int × Bool)) × Int × Int × Int × Bool))) fun j_3 =>
        .br j_3.2.2.2.2 (
          .pure 2) (
          .br (j_3.2.2.1 == 8) (
            .pure 2) (
            .bnd (Tr.run (
    .br (j_3.2.2.2.1 == 5) (
      .pure (j_3.1, j_3.2.1, j_3.2.2.1, j_3.2.2.2.1, true)) (
      .br (j_3.2.2.2.1 == 6) (
        .pure (j_3.1, j_3.2.1, j_3.2.2.1, j_3.2.2.2.1, true)) (
        .pure (j_3.1, j_3.2.1, j_3.2.2.1, j_3.2.2.2.1, j_3.2.2.2.1 == 7))) : Tr ((List (Int × Bool)) × Int × Int × Int × Bool))) fun j_4 =>
            .bnd (Tr.run (
    .br j_4.2.2.2.2 (
      .pure (j_4.1, j_4.2.1, j_4.2.2.1, j_4.2.2.2.1, true)) (
      .br (j_4.2.2.2.1 == 8) (
        .pure (j_4.1, j_4.2.1, j_4.2.2.1, j_4.2.2.2.1, true)) (
        .pure (j_4.1, j_4.2.1, j_4.2.2.1, j_4.2.2.2.1, j_4.2.2.2.1 == 9))) : Tr ((List (Int × Bool)) × Int × Int × Int × Bool))) fun j_5 =>
            .br j_5.2.2.2.2 (
              .pure 0) (
              .br (j_5.2.2.2.1 == 10) (
                .pure 0) (
                .bnd (ref20_overSpaces_F j_5.1 j_5.2.1) fun c_6 =>
                .br (c_6 == 10) (
                  .pure 1) (
                  .bnd (Tr.run (
    .bnd (Tr.run (
    .bnd (idx j_5.1 (IntKind.i64.wrap (j_5.2.1 - 1))) fun x_7 =>
    .br x_7.2 (
      .pure (j_5.1, j_5.2.1, j_5.2.2.1, j_5.2.2.2.1, c_6, true)) (
      .br (j_5.2.2.2.1 == 11) (
        .pure (j_5.1, j_5.2.1, j_5.2.2.1, j_5.2.2.2.1, c_6, true)) (
        .pure (j_5.1, j_5.2.1, j_5.2.2.1, j_5.2.2.2.1, c_6, j_5.2.2.1 == 11))) : Tr ((List (Int × Bool)) × Int × Int × Int × Int × Bool))) fun j_8 =>
    .br j_8.2.2.2.2.2 (
      .pure (j_8.1, j_8.2.1, j_8.2.2.1, j_8.2.2.2.1, j_8.2.2.2.2.1, true)) (
      .br (j_8.2.2.1 == 12) (
        .pure (j_8.1, j_8.2.1, j_8.2.2.1, j_8.2.2.2.1, j_8.2.2.2.2.1, true)) (
        .br (j_8.2.2.2.1 == 12) (
          .br (j_8.2.2.1 != 9) (
            .br (j_8.2.2.1 != 14) (
              .pure (j_8.1, j_8.2.1, j_8.2.2.1, j_8.2.2.2.1, j_8.2.2.2.2.1, j_8.2.2.1 != 17)) (
              .pure (j_8.1, j_8.2.1, j_8.2.2.1, j_8.2.2.2.1, j_8.2.2.2.2.1, false))) (
            .pure (j_8.1, j_8.2.1, j_8.2.2.1, j_8.2.2.2.1, j_8.2.2.2.2.1, false))) (
          .pure (j_8.1, j_8.2.1, j_8.2.2.1, j_8.2.2.2.1, j_8.2.2.2.2.1, false)))) : Tr ((List (Int × Bool)) × Int × Int × Int × Int × Bool))) fun j_9 =>
                  .br j_9.2.2.2.2.2 (
                    .pure 0) (
                    .bnd (Tr.run (
    .br (j_9.2.2.2.1 == 19) (
      .pure (j_9.1, j_9.2.1, j_9.2.2.1, j_9.2.2.2.1, j_9.2.2.2.2.1, true)) (
      .br (j_9.2.2.2.1 == 20) (
        .pure (j_9.1, j_9.2.1, j_9.2.2.1, j_9.2.2.2.1, j_9.2.2.2.2.1, true)) (
        .pure (j_9.1, j_9.2.1, j_9.2.2.1, j_9.2.2.2.1, j_9.2.2.2.2.1, j_9.2.2.2.1 == 23))) : Tr ((List (Int × Bool)) × Int × Int × Int × Int × Bool))) fun j_10 =>
                    .br j_10.2.2.2.2.2 (
                      .pure 0) (
                      .br (j_10.2.2.2.1 == 25) (
                        .pure 0) (
                        .br (j_10.2.2.2.1 == 26) (
                          .pure 0) (
                          .bnd (Tr.run (
    .br (j_10.2.2.2.2.1 == 21) (
      .pure (j_10.1, j_10.2.1, j_10.2.2.1, j_10.2.2.2.1, j_10.2.2.2.2.1, true)) (
      .br (j_10.2.2.2.2.1 == 22) (
        .pure (j_10.1, j_10.2.1, j_10.2.2.1, j_10.2.2.2.1, j_10.2.2.2.2.1, j_10.2.2.2.1 == 21)) (
        .pure (j_10.1, j_10.2.1, j_10.2.2.1, j_10.2.2.2.1, j_10.2.2.2.2.1, false))) : Tr ((List (Int × Bool)) × Int × Int × Int × Int × Bool))) fun j_11 =>
                          .bnd (Tr.run (
    .br j_11.2.2.2.2.2 (
      .pure (j_11.1, j_11.2.1, j_11.2.2.1, j_11.2.2.2.1, j_11.2.2.2.2.1, true)) (
      .br (j_11.2.2.2.2.1 == 19) (
        .pure (j_11.1, j_11.2.1, j_11.2.2.1, j_11.2.2.2.1, j_11.2.2.2.2.1, j_11.2.2.2.1 == 18)) (
        .br (j_11.2.2.2.2.1 == 20) (
          .pure (j_11.1, j_11.2.1, j_11.2.2.1, j_11.2.2.2.1, j_11.2.2.2.2.1, j_11.2.2.2.1 == 18)) (
          .pure (j_11.1, j_11.2.1, j_11.2.2.1, j_11.2.2.2.1, j_11.2.2.2.2.1, false)))) : Tr ((List (Int × Bool)) × Int × Int × Int × Int × Bool))) fun j_12 =>
                          .br j_12.2.2.2.2.2 (
                            .pure 0) (
                            .br (j_12.2.2.2.2.1 == 16) (
                              .br (j_12.2.2.2.1 == 16) (
                                .pure 0) (
                                .br (j_12.2.2.1 == 9) (
                                  .pure 1) (
                                  .br (j_12.2.2.2.1 == 22) (
                                    .pure 0) (
                                    .br (j_12.2.2.1 == 22) (
                                      .pure 0) (
                                      .br (j_12.2.2.2.1 == 13) (
                                        .pure 1) (
                                        .br (j_12.2.2.1 == 13) (
                                          .pure 1) (
                                          .bnd (ref20_stays_F j_12.1 j_12.2.1 j_12.2.2.1 j_12.2.2.2.1) fun c_13 =>
                                          .br c_13 (
                                            .pure 0) (
                                            .pure 1)))))))) (
                              .br (j_12.2.2.1 == 9) (
                                .pure 1) (
                                .br (j_12.2.2.2.1 == 22) (
                                  .pure 0) (
                                  .br (j_12.2.2.1 == 22) (
                                    .pure 0) (
                                    .br (j_12.2.2.2.1 == 13) (
                                      .pure 1) (
                                      .br (j_12.2.2.1 == 13) (
                                        .pure 1) (
                                        .bnd (ref20_stays_F j_12.1 j_12.2.1 j_12.2.2.1 j_12.2.2.2.1) fun c_14 =>
                                        .br c_14 (
                                          .pure 0) (
                                          .pure 1))))))))))))))))))) (
      .bnd (Tr.run (
    .br (x_1.1 == 5) (
      .pure (us0, k1, x_1.1, x_2.1, true)) (
      .br (x_1.1 == 6) (
        .pure (us0, k1, x_1.1, x_2.1, true)) (
        .pure (us0, k1, x_1.1, x_2.1, x_1.1 == 7))) : Tr ((List (Int × Bool)) × Int × Int × Int × Bool))) fun j_15 =>
      .br j_15.2.2.2.2 (
        .pure 2) (
        .br (j_15.2.2.1 == 8) (
          .pure 2) (
          .bnd (Tr.run (
    .br (j_15.2.2.2.1 == 5) (
      .pure (j_15.1, j_15.2.1, j_15.2.2.1, j_15.2.2.2.1, true)) (
      .br (j_15.2.2.2.1 == 6) (
        .pure (j_15.1, j_15.2.1, j_15.2.2.1, j_15.2.2.2.1, true)) (
        .pure (j_15.1, j_15.2.1, j_15.2.2.1, j_15.2.2.2.1, j_15.2.2.2.1 == 7))) : Tr ((List (Int × Bool)) × Int × Int × Int × Bool))) fun j_16 =>
          .bnd (Tr.run (
    .br j_16.2.2.2.2 (
      .pure (j_16.1, j_16.2.1, j_16.2.2.1, j_16.2.2.2.1, true)) (
      .br (j_16.2.2.2.1 == 8) (
        .pure (j_16.1, j_16.2.1, j_16.2.2.1, j_16.2.2.2.1, true)) (
        .pure (j_16.1, j_16.2.1, j_16.2.2.1, j_16.2.2.2.1, j_16.2.2.2.1 == 9))) : Tr ((List (Int × Bool)) × Int × Int × Int × Bool))) fun j_17 =>
          .br j_17.2.2.2.2 (
            .pure 0) (
            .br (j_17.2.2.2.1 == 10) (
              .pure 0) (
              .bnd (ref20_overSpaces_F j_17.1 j_17.2.1) fun c_18 =>
              .br (c_18 == 10) (
                .pure 1) (
                .bnd (Tr.run (
    .bnd (Tr.run (
    .bnd (idx j_17.1 (IntKind.i64.wrap (j_17.2.1 - 1))) fun x_19 =>
    .br x_19.2 (
      .pure (j_17.1, j_17.2.1, j_17.2.2.1, j_17.2.2.2.1, c_18, true)) (
      .br (j_17.2.2.2.1 == 11) (
        .pure (j_17.1, j_17.2.1, j_17.2.2.1, j_17.2.2.2.1, c_18, true)) (
        .pure (j_17.1, j_17.2.1, j_17.2.2.1, j_17.2.2.2.1, c_18, j_17.2.2.1 == 11))) : Tr ((List (Int × Bool)) × Int × Int × Int × Int × Bool))) fun j_20 =>
    .br j_20.2.2.2.2.2 (
      .pure (j_20.1, j_20.2.1, j_20.2.2.1, j_20.2.2.2.1, j_20.2.2.2.2.1, true)) (
      .br (j_20.2.2.1 == 12) (
        .pure (j_20.1, j_20.2.1, j_20.2.2.1, j_20.2.2.2.1, j_20.2.2.2.2.1, true)) (
        .br (j_20.2.2.2.1 == 12) (
          .br (j_20.2.2.1 != 9) (
            .br (j_20.2.2.1 != 14) (
              .pure (j_20.1, j_20.2.1, j_20.2.2.1, j_20.2.2.2.1, j_20.2.2.2.2.1, j_20.2.2.1 != 17)) (
              .pure (j_20.1, j_20.2.1, j_20.2.2.1, j_20.2.2.2.1, j_20.2.2.2.2.1, false))) (
            .pure (j_20.1, j_20.2.1, j_20.2.2.1, j_20.2.2.2.1, j_20.2.2.2.2.1, false))) (
          .pure (j_20.1, j_20.2.1, j_20.2.2.1, j_20.2.2.2.1, j_20.2.2.2.2.1, false)))) : Tr ((List (Int × Bool)) × Int × Int × Int × Int × Bool))) fun j_21 =>
                .br j_21.2.2.2.2.2 (
                  .pure 0) (
                  .bnd (Tr.run (
    .br (j_21.2.2.2.1 == 19) (
      .pure (j_21.1, j_21.2.1, j_21.2.2.1, j_21.2.2.2.1, j_21.2.2.2.2.1, true)) (
      .br (j_21.2.2.2.1 == 20) (
        .pure (j_21.1, j_21.2.1, j_21.2.2.1, j_21.2.2.2.1, j_21.2.2.2.2.1, true)) (
        .pure (j_21.1, j_21.2.1, j_21.2.2.1, j_21.2.2.2.1, j_21.2.2.2.2.1, j_21.2.2.2.1 == 23))) : Tr ((List (Int × Bool)) × Int × Int × Int × Int × Bool))) fun j_22 =>
                  .br j_22.2.2.2.2.2 (
                    .pure 0) (
                    .br (j_22.2.2.2.1 == 25) (
                      .pure 0) (
                      .br (j_22.2.2.2.1 == 26) (
                        .pure 0) (
                        .bnd (Tr.run (
    .br (j_22.2.2.2.2.1 == 21) (
      .pure (j_22.1, j_22.2.1, j_22.2.2.1, j_22.2.2.2.1, j_22.2.2.2.2.1, true)) (
      .br (j_22.2.2.2.2.1 == 22) (
        .pure (j_22.1, j_22.2.1, j_22.2.2.1, j_22.2.2.2.1, j_22.2.2.2.2.1, j_22.2.2.2.1 == 21)) (
        .pure (j_22.1, j_22.2.1, j_22.2.2.1, j_22.2.2.2.1, j_22.2.2.2.2.1, false))) : Tr ((List (Int × Bool)) × Int × Int × Int × Int × Bool))) fun j_23 =>
                        .bnd (Tr.run (
    .br j_23.2.2.2.2.2 (
      .pure (j_23.1, j_23.2.1, j_23.2.2.1, j_23.2.2.2.1, j_23.2.2.2.2.1, true)) (
      .br (j_23.2.2.2.2.1 == 19) (
        .pure (j_23.1, j_23.2.1, j_23.2.2.1, j_23.2.2.2.1, j_23.2.2.2.2.1, j_23.2.2.2.1 == 18)) (
        .br (j_23.2.2.2.2.1 == 20) (
          .pure (j_23.1, j_23.2.1, j_23.2.2.1, j_23.2.2.2.1, j_23.2.2.2.2.1, j_23.2.2.2.1 == 18)) (
          .pure (j_23.1, j_23.2.1, j_23.2.2.1, j_23.2.2.2.1, j_23.2.2.2.2.1, false)))) : Tr ((List (Int × Bool)) × Int × Int × Int × Int × Bool))) fun j_24 =>
                        .br j_24.2.2.2.2.2 (
                          .pure 0) (
                          .br (j_24.2.2.2.2.1 == 16) (
                            .br (j_24.2.2.2.1 == 16) (
                              .pure 0) (
                              .br (j_24.2.2.1 == 9) (
                                .pure 1) (
                                .br (j_24.2.2.2.1 == 22) (
                                  .pure 0) (
                                  .br (j_24.2.2.1 == 22) (
                                    .pure 0) (
                                    .br (j_24.2.2.2.1 == 13) (
                                      .pure 1) (
                                      .br (j_24.2.2.1 == 13) (
                                        .pure 1) (
                                        .bnd (ref20_stays_F j_24.1 j_24.2.1 j_24.2.2.1 j_24.2.2.2.1) fun c_25 =>
                                        .br c_25 (
                                          .pure 0) (
                                          .pure 1)))))))) (
                            .br (j_24.2.2.1 == 9) (
                              .pure 1) (
                              .br (j_24.2.2.2.1 == 22) (
                                .pure 0) (
                                .br (j_24.2.2.1 == 22) (
                                  .pure 0) (
                                  .br (j_24.2.2.2.1 == 13) (
                                    .pure 1) (
                                    .br (j_24.2.2.1 == 13) (
                                      .pure 1) (
                                      .bnd (ref20_stays_F j_24.1 j_24.2.1 j_24.2.2.1 j_24.2.2.2.1) fun c_26 =>
                                      .br c_26 (
                                        .pure 0) (
                                        .pure 1)))))))))))))))))))
noncomputable def ref20_Status_F (us0 : List (Int × Bool)) (k1 : Int) : Option Int := (ref20_Status_T us0 k1).run
def ref20_Status_L : List (Nat × LoopAnn) := []
noncomputable def ref20_Status_C : List (Nat × Callee) := [(45, .plain ref20_overSpaces_fun), (46, .plain ref20_stays_fun)]
noncomputable def ref20_Status_fun : Fun := ⟨[.sl (.st (.pair (.int .i64) .bool)), .int .i64], [.v (.int .i64)], fun x => ref20_Status_F x.1 x.2.1⟩
theorem ref20_Status_ev (x : Tys.I [.sl (.st (.pair (.int .i64) .bool)), .int .i64]) : evFun G0 (fun f => olook f ref20_Status_C) ⟨[], [], [], [(14, [.sv 0 false (.sl (.st (.pair (.int .i64) .bool))), .sv 1 false (.int .i64), .sv 5 false (.int .i64), .sv 6 false (.int .i64), .sv 7 true (.int .i64), .sv 101 true .bool])], [(7, [(10, [.sv 0 false (.sl (.st (.pair (.int .i64) .bool))), .sv 1 false (.int .i64), .sv 5 false (.int .i64), .sv 6 false (.int .i64), .sv 36 true .bool])]), (9, [(10, [.sv 0 false (.sl (.st (.pair (.int .i64) .bool))), .sv 1 false (.int .i64), .sv 5 false (.int .i64), .sv 6 false (.int .i64), .sv 50 true .bool]), (8, [.sv 0 false (.sl (.st (.pair (.int .i64) .bool))), .sv 1 false (.int .i64), .sv 5 false (.int .i64), .sv 6 false (.int .i64), .sv 58 true .bool])]), (14, [(14, [.sv 0 false (.sl (.st (.pair (.int .i64) .bool))), .sv 1 false (.int .i64), .sv 5 false (.int .i64), .sv 6 false (.int .i64), .sv 7 true (.int .i64), .sv 81 true .bool])]), (16, [(10, [.sv 0 false (.sl (.st (.pair (.int .i64) .bool))), .sv 1 false (.int .i64), .sv 5 false (.int .i64), .sv 6 false (.int .i64), .sv 7 true (.int .i64), .sv 111 true .bool])]), (18, [(10, [.sv 0 false (.sl (.st (.pair (.int .i64) .bool))), .sv 1 false (.int .i64), .sv 5 false (.int .i64), .sv 6 false (.int .i64), .sv 7 true (.int .i64), .sv 129 true .bool]), (12, [.sv 0 false (.sl (.st (.pair (.int .i64) .bool))), .sv 1 false (.int .i64), .sv 5 false (.int .i64), .sv 6 false (.int .i64), .sv 7 true (.int .i64), .sv 141 true .bool])])]⟩ (fun i => olook i ref20_Status_L) Try.f37 [.sl (.st (.pair (.int .i64) .bool)), .int .i64] [.v (.int .i64)] x = ref20_Status_T x.1 x.2.1 := by kernel_rfl
theorem ref20_Status_ok : FunOk Try.prog 37 ref20_Status_fun := evFun_ok mixed ctx0 (cons_calls (fb := .plain ref20_overSpaces_fun) ref20_overSpaces_ok (fun h => by cases h) (cons_calls (fb := .plain ref20_stays_fun) ref20_stays_ok (fun h => by cases h) (no_calls))) Try.func37 (by kernel_rfl) _ (fun x => congrArg Tr.run (ref20_Status_ev x)) (by kernel_rfl) (by kernel_rfl)
/-! ### boustrophedon/boustrophedonlaw20.Want -/
noncomputable def law20_Want_L3 (l3 : List (Int × Bool)) (t8 : List (Int × Int × Int × Bool)) (t9 : Int) (t10 : Int) : Tr (Lap ((List (Int × Bool)) × (List (Int × Int × Int × Bool)) × Int × Int) (List (Int × Bool))) :=
  .br (decide (t10 < t9)) (
    .bnd (idx t8 t10) fun x_1 =>
    .bnd (idx ([x_1]) 0) fun x_2 =>
    .bnd (idx ([x_1]) 0) fun x_3 =>
    .bnd (app 8796093022208 l3 ([(IntKind.i64.wrap x_2.2.2.1, x_3.2.2.2)])) fun r_4 =>
    .pure (.next (r_4, t8, t9, IntKind.i64.wrap (t10 + 1)))) (
    .pure (.done l3))
noncomputable def law20_Want_L9 (l3 : List (Int × Bool)) (out6 : List Int) (t25 : Int) (t26 : Int) : Tr (Lap ((List (Int × Bool)) × List Int × Int × Int) (List Int)) :=
  .br (decide (t26 < t25)) (
    .bnd (ref20_Status_F l3 t26) fun c_6 =>
    .bnd (app 17592186044416 out6 ([c_6])) fun r_7 =>
    .pure (.next (l3, r_7, t25, IntKind.i64.wrap (t26 + 1)))) (
    .pure (.done out6))
noncomputable def law20_Want_T (us0 : List (Int × Int × Int × Bool)) : Tr (List Int) :=
  .bnd (loopW (fun s => (law20_Want_L3 s.1 s.2.1 s.2.2.1 s.2.2.2).run) ([], us0, (us0.length : Int), 0)) fun l_5 =>
  .bnd (loopW (fun s => (law20_Want_L9 s.1 s.2.1 s.2.2.1 s.2.2.2).run) (l_5, [], (l_5.length : Int), 0)) fun l_8 =>
  .pure l_8
noncomputable def law20_Want_F (us0 : List (Int × Int × Int × Bool)) : Option (List Int) := (law20_Want_T us0).run
def law20_Want_L : List (Nat × LoopAnn) := [(3, { head := [.srow 3 1000003 67 true (.st (.pair (.int .i64) .bool)), .sv 8 false (.sl (.st (.pair (.int .i64) (.pair (.int .i64) (.pair (.int .u8) .bool))))), .sv 9 true (.int .i64), .sv 10 true (.int .i64)], xid := 0, out := [.srow 3 1000003 67 true (.st (.pair (.int .i64) .bool))], hasRet := false, res := [] }), (9, { head := [.srow 3 1000003 67 true (.st (.pair (.int .i64) .bool)), .srow 6 1000006 3 true (.int .i64), .sv 25 true (.int .i64), .sv 26 true (.int .i64)], xid := 2, out := [.srow 6 1000006 3 true (.int .i64)], hasRet := false, res := [] })]
noncomputable def law20_Want_C : List (Nat × Callee) := [(37, .plain ref20_Status_fun)]
noncomputable def law20_Want_fun : Fun := ⟨[.sl (.st (.pair (.int .i64) (.pair (.int .i64) (.pair (.int .u8) .bool))))], [.row 3 (.int .i64)], fun x => law20_Want_F x.1⟩
theorem law20_Want_ev (x : Tys.I [.sl (.st (.pair (.int .i64) (.pair (.int .i64) (.pair (.int .u8) .bool))))]) : evFun G0 (fun f => olook f law20_Want_C) ⟨[], [], [], [], []⟩ (fun i => olook i law20_Want_L) Try.f27 [.sl (.st (.pair (.int .i64) (.pair (.int .i64) (.pair (.int .u8) .bool))))] [.row 3 (.int .i64)] x = law20_Want_T x.1 := by kernel_rfl
theorem law20_Want_ok : FunOk Try.prog 27 law20_Want_fun := evFun_ok mixed ctx0 (cons_calls (fb := .plain ref20_Status_fun) ref20_Status_ok (fun h => by cases h) (no_calls)) Try.func27 (by kernel_rfl) _ (fun x => congrArg Tr.run (law20_Want_ev x)) (by kernel_rfl) (by kernel_rfl)
/-! ### boustrophedon/boustrophedonlaw20.LbruleBetween -/
noncomputable def law20_LbruleBetween_T (ns0 : List Int) : Tr Bool :=
  .bnd law20_awake_F fun c_1 =>
  .br (!c_1) (
    .pure false) (
    .bnd (law19_Classes_F ns0) fun c_2 =>
    .bnd (lbone_Units_F c_2 ([])) fun c_3 =>
    .bnd (lbrule_Between_F c_3) fun c_4 =>
    .bnd (law20_Want_F c_3) fun c_5 =>
    .bnd (law20_are_F c_4 c_5) fun c_6 =>
    .pure c_6)
noncomputable def law20_LbruleBetween_F (ns0 : List Int) : Option Bool := (law20_LbruleBetween_T ns0).run
def law20_LbruleBetween_L : List (Nat × LoopAnn) := []
noncomputable def law20_LbruleBetween_C : List (Nat × Callee) := [(22, .plain law20_awake_fun), (24, .plain law19_Classes_fun), (23, .plain lbone_Units_fun), (26, .plain lbrule_Between_fun), (27, .plain law20_Want_fun), (25, .plain law20_are_fun)]
noncomputable def law20_LbruleBetween_fun : Fun := ⟨[.sl (.int .u8)], [.v .bool], fun x => law20_LbruleBetween_F x.1⟩
theorem law20_LbruleBetween_ev (x : Tys.I [.sl (.int .u8)]) : evFun G0 (fun f => olook f law20_LbruleBetween_C) ⟨[], [], [], [], []⟩ (fun i => olook i law20_LbruleBetween_L) Try.f7 [.sl (.int .u8)] [.v .bool] x = law20_LbruleBetween_T x.1 := by kernel_rfl
theorem law20_LbruleBetween_ok : FunOk Try.prog 7 law20_LbruleBetween_fun := evFun_ok mixed ctx0 (cons_calls (fb := .plain law20_awake_fun) law20_awake_ok (fun h => by cases h) (cons_calls (fb := .plain law19_Classes_fun) law19_Classes_ok (fun h => by cases h) (cons_calls (fb := .plain lbone_Units_fun) lbone_Units_ok (fun h => by cases h) (cons_calls (fb := .plain lbrule_Between_fun) lbrule_Between_ok (fun h => by cases h) (cons_calls (fb := .plain law20_Want_fun) law20_Want_ok (fun h => by cases h) (cons_calls (fb := .plain law20_are_fun) law20_are_ok (fun h => by cases h) (no_calls))))))) Try.func7 (by kernel_rfl) _ (fun x => congrArg Tr.run (law20_LbruleBetween_ev x)) (by kernel_rfl) (by kernel_rfl)
/-! ### boustrophedon/boustrophedonlaw20.LbruleRaw -/
noncomputable def law20_LbruleRaw_L5 (joined1 : List Bool) (us5 : List (Int × Int × Int × Bool)) (k6 : Int) : Tr (Lap (List Bool × (List (Int × Int × Int × Bool)) × Int) (List (Int × Int × Int × Bool))) :=
  .br (decide (k6 < (us5.length : Int))) (
    .br (decide (k6 < (joined1.length : Int))) (
      .bnd (idx joined1 k6) fun x_4 =>
      .bnd (idx us5 k6) fun x_5 =>
      .bnd (idx us5 k6) fun x_6 =>
      .pure (.next (joined1, us5.set (Int.toNat k6) (x_6.1, x_6.2.1, x_6.2.2.1, x_4), IntKind.i64.wrap (k6 + 1)))) (
      .pure (.done us5))) (
    .pure (.done us5))
noncomputable def law20_LbruleRaw_T (ns0 : List Int) (joined1 : List Bool) : Tr Bool :=
  .bnd law20_awake_F fun c_1 =>
  .br (!c_1) (
    .pure false) (
    .bnd (law19_Classes_F ns0) fun c_2 =>
    .bnd (law20_of_F c_2) fun c_3 =>
    .bnd (loopW (fun s => (law20_LbruleRaw_L5 s.1 s.2.1 s.2.2).run) (joined1, c_3, 0)) fun l_7 =>
    .bnd (lbrule_Between_F l_7) fun c_8 =>
    .bnd (law20_Want_F l_7) fun c_9 =>
    .bnd (law20_are_F c_8 c_9) fun c_10 =>
    .pure c_10)
noncomputable def law20_LbruleRaw_F (ns0 : List Int) (joined1 : List Bool) : Option Bool := (law20_LbruleRaw_T ns0 joined1).run
def law20_LbruleRaw_L : List (Nat × LoopAnn) := [(5, { head := [.sv 1 false (.sl .bool), .srow 5 1000005 50 true (.st (.pair (.int .i64) (.pair (.int .i64) (.pair (.int .u8) .bool)))), .sv 6 true (.int .i64)], xid := 0, out := [.srow 5 1000005 50 true (.st (.pair (.int .i64) (.pair (.int .i64) (.pair (.int .u8) .bool))))], hasRet := false, res := [] })]
noncomputable def law20_LbruleRaw_C : List (Nat × Callee) := [(22, .plain law20_awake_fun), (24, .plain law19_Classes_fun), (28, .plain law20_of_fun), (26, .plain lbrule_Between_fun), (27, .plain law20_Want_fun), (25, .plain law20_are_fun)]
noncomputable def law20_LbruleRaw_fun : Fun := ⟨[.sl (.int .u8), .sl .bool], [.v .bool], fun x => law20_LbruleRaw_F x.1 x.2.1⟩
theorem law20_LbruleRaw_ev (x : Tys.I [.sl (.int .u8), .sl .bool]) : evFun G0 (fun f => olook f law20_LbruleRaw_C) ⟨[], [], [], [], []⟩ (fun i => olook i law20_LbruleRaw_L) Try.f8 [.sl (.int .u8), .sl .bool] [.v .bool] x = law20_LbruleRaw_T x.1 x.2.1 := by kernel_rfl
theorem law20_LbruleRaw_ok : FunOk Try.prog 8 law20_LbruleRaw_fun := evFun_ok mixed ctx0 (cons_calls (fb := .plain law20_awake_fun) law20_awake_ok (fun h => by cases h) (cons_calls (fb := .plain law19_Classes_fun) law19_Classes_ok (fun h => by cases h) (cons_calls (fb := .plain law20_of_fun) law20_of_ok (fun h => by cases h) (cons_calls (fb := .plain lbrule_Between_fun) lbrule_Between_ok (fun h => by cases h) (cons_calls (fb := .plain law20_Want_fun) law20_Want_ok (fun h => by cases h) (cons_calls (fb := .plain law20_are_fun) law20_are_ok (fun h => by cases h) (no_calls))))))) Try.func8 (by kernel_rfl) _ (fun x => congrArg Tr.run (law20_LbruleRaw_ev x)) (by kernel_rfl) (by kernel_rfl)
/-! ### boustrophedon/boustrophedonlaw20.LbruleEnds -/
noncomputable def law20_LbruleEnds_L8 (us3 : List (Int × Int × Int × Bool)) (s4 : List Int) (k5 : Int) : Tr (Lap ((List (Int × Int × Int × Bool)) × List Int × Int) (Sum Unit Bool)) :=
  .br (decide (k5 < (us3.length : Int))) (
    .bnd (idx us3 (IntKind.i64.wrap (k5 - 1))) fun x_6 =>
    .bnd (idx us3 k5) fun x_7 =>
    .br (x_6.2.2.1 == 5) (
      .bnd (idx s4 k5) fun x_8 =>
      .br (!((x_8 == 2) == true)) (
        .pure (.done (.inr false))) (
        .br (x_7.2.2.1 == 9) (
          .pure (.next (us3, s4, IntKind.i64.wrap (k5 + 1)))) (
          .pure (.next (us3, s4, IntKind.i64.wrap (k5 + 1)))))) (
      .br (x_6.2.2.1 == 7) (
        .bnd (idx s4 k5) fun x_9 =>
        .br (!((x_9 == 2) == true)) (
          .pure (.done (.inr false))) (
          .br (x_7.2.2.1 == 9) (
            .pure (.next (us3, s4, IntKind.i64.wrap (k5 + 1)))) (
            .pure (.next (us3, s4, IntKind.i64.wrap (k5 + 1)))))) (
        .br (x_6.2.2.1 == 8) (
          .bnd (idx s4 k5) fun x_10 =>
          .br (!((x_10 == 2) == true)) (
            .pure (.done (.inr false))) (
            .br (x_7.2.2.1 == 9) (
              .pure (.next (us3, s4, IntKind.i64.wrap (k5 + 1)))) (
              .pure (.next (us3, s4, IntKind.i64.wrap (k5 + 1)))))) (
          .br (x_6.2.2.1 == 6) (
            .bnd (idx s4 k5) fun x_11 =>
            .br (!((x_11 == 2) == (x_7.2.2.1 != 7))) (
              .pure (.done (.inr false))) (
              .br (x_7.2.2.1 == 9) (
                .br (!(x_7.2.2.1 != 7)) (
                  .bnd (idx s4 k5) fun x_12 =>
                  .br (x_12 != 0) (
                    .pure (.done (.inr false))) (
                    .pure (.next (us3, s4, IntKind.i64.wrap (k5 + 1))))) (
                  .pure (.next (us3, s4, IntKind.i64.wrap (k5 + 1))))) (
                .pure (.next (us3, s4, IntKind.i64.wrap (k5 + 1)))))) (
            .bnd (idx s4 k5) fun x_13 =>
            .br (!((x_13 == 2) == false)) (
              .pure (.done (.inr false))) (
              .br (x_7.2.2.1 == 9) (
                .bnd (idx s4 k5) fun x_14 =>
                .br (x_14 != 0) (
                  .pure (.done (.inr false))) (
                  .pure (.next (us3, s4, IntKind.i64.wrap (k5 + 1))))) (
                .pure (.next (us3, s4, IntKind.i64.wrap (k5 + 1)))))))))) (
    .pure (.done (.inl ())))
noncomputable def law20_LbruleEnds_T (ns0 : List Int) : Tr Bool :=
  .bnd law20_awake_F fun c_1 =>
  .br (!c_1) (
    .pure false) (
    .bnd (law19_Classes_F ns0) fun c_2 =>
    .bnd (law20_of_F c_2) fun c_3 =>
    .bnd (lbrule_Between_F c_3) fun c_4 =>
    .br ((c_4.length : Int) != (c_3.length : Int)) (
      .pure false) (
      .br (decide ((c_4.length : Int) > 0)) (
        .bnd (idx c_4 0) fun x_5 =>
        .br (x_5 != 0) (
          .pure false) (
          .alt (loopW (fun s => (law20_LbruleEnds_L8 s.1 s.2.1 s.2.2).run) (c_3, c_4, 1)) (fun l_15 =>
            .pure true) (fun l_16 =>
            .pure l_16))) (
        .alt (loopW (fun s => (law20_LbruleEnds_L8 s.1 s.2.1 s.2.2).run) (c_3, c_4, 1)) (fun l_17 =>
          .pure true) (fun l_18 =>
          .pure l_18))))
noncomputable def law20_LbruleEnds_F (ns0 : List Int) : Option Bool := (law20_LbruleEnds_T ns0).run
def law20_LbruleEnds_L : List (Nat × LoopAnn) := [(8, { head := [.srow 3 1000003 50 true (.st (.pair (.int .i64) (.pair (.int .i64) (.pair (.int .u8) .bool)))), .srow 4 1000004 52 true (.int .i64), .sv 5 true (.int .i64)], xid := 0, out := [], hasRet := true, res := [.sv 2 true .bool] })]
noncomputable def law20_LbruleEnds_C : List (Nat × Callee) := [(22, .plain law20_awake_fun), (24, .plain law19_Classes_fun), (28, .plain law20_of_fun), (26, .plain lbrule_Between_fun)]
noncomputable def law20_LbruleEnds_fun : Fun := ⟨[.sl (.int .u8)], [.v .bool], fun x => law20_LbruleEnds_F x.1⟩
theorem law20_LbruleEnds_ev (x : Tys.I [.sl (.int .u8)]) : evFun G0 (fun f => olook f law20_LbruleEnds_C) ⟨[], [], [], [], []⟩ (fun i => olook i law20_LbruleEnds_L) Try.f9 [.sl (.int .u8)] [.v .bool] x = law20_LbruleEnds_T x.1 := by kernel_rfl
theorem law20_LbruleEnds_ok : FunOk Try.prog 9 law20_LbruleEnds_fun := evFun_ok mixed ctx0 (cons_calls (fb := .plain law20_awake_fun) law20_awake_ok (fun h => by cases h) (cons_calls (fb := .plain law19_Classes_fun) law19_Classes_ok (fun h => by cases h) (cons_calls (fb := .plain law20_of_fun) law20_of_ok (fun h => by cases h) (cons_calls (fb := .plain lbrule_Between_fun) lbrule_Between_ok (fun h => by cases h) (no_calls))))) Try.func9 (by kernel_rfl) _ (fun x => congrArg Tr.run (law20_LbruleEnds_ev x)) (by kernel_rfl) (by kernel_rfl)
/-! ### boustrophedon/boustrophedonlaw20.LbruleAfresh -/
noncomputable def law20_LbruleAfresh_L12 (a5 : List Int) (b6 : List Int) (s8 : List Int) (t9 : List Int) (k10 : Int) : Tr (Lap (List Int × List Int × List Int × List Int × Int) (Sum (List Int × List Int × List Int) Bool)) :=
  .br (decide (k10 < (b6.length : Int))) (
    .bnd (idx s8 (IntKind.i64.wrap ((IntKind.i64.wrap ((a5.length : Int) + 1)) + k10))) fun x_11 =>
    .bnd (idx t9 k10) fun x_12 =>
    .br (x_11 != x_12) (
      .pure (.done (.inr false))) (
      .pure (.next (a5, b6, s8, t9, IntKind.i64.wrap (k10 + 1))))) (
    .pure (.done (.inl (a5, b6, s8))))
noncomputable def law20_LbruleAfresh_T (ns0 : List Int) (ms1 : List Int) : Tr Bool :=
  .bnd law20_awake_F fun c_1 =>
  .br (!c_1) (
    .pure false) (
    .bnd (law19_Classes_F ns0) fun c_2 =>
    .bnd (law19_Classes_F ms1) fun c_3 =>
    .bnd (app 140737488355328 [] c_2) fun r_4 =>
    .bnd (app 140737488355328 r_4 ([5])) fun r_5 =>
    .bnd (app 140737488355328 r_5 c_3) fun r_6 =>
    .bnd (law20_of_F r_6) fun c_7 =>
    .bnd (lbrule_Between_F c_7) fun c_8 =>
    .bnd (law20_of_F c_3) fun c_9 =>
    .bnd (lbrule_Between_F c_9) fun c_10 =>
    .br ((c_8.length : Int) != (IntKind.i64.wrap ((IntKind.i64.wrap ((c_2.length : Int) + 1)) + (c_3.length : Int)))) (
      .pure false) (
      .br ((c_10.length : Int) != (c_3.length : Int)) (
        .pure false) (
        .alt (loopW (fun s => (law20_LbruleAfresh_L12 s.1 s.2.1 s.2.2.1 s.2.2.2.1 s.2.2.2.2).run) (c_2, c_3, c_8, c_10, 1)) (fun l_13 =>
          .br ((l_13.2.1.length : Int) == 0) (
            .pure true) (
            .bnd (idx l_13.2.2 (IntKind.i64.wrap ((l_13.1.length : Int) + 1))) fun x_14 =>
            .pure (x_14 == 2))) (fun l_15 =>
          .pure l_15))))
noncomputable def law20_LbruleAfresh_F (ns0 : List Int) (ms1 : List Int) : Option Bool := (law20_LbruleAfresh_T ns0 ms1).run
def law20_LbruleAfresh_L : List (Nat × LoopAnn) := [(12, { head := [.srow 5 1000005 48 true (.int .u8), .srow 6 1000006 48 true (.int .u8), .srow 8 1000008 52 true (.int .i64), .srow 9 1000009 52 true (.int .i64), .sv 10 true (.int .i64)], xid := 0, out := [.srow 5 1000005 48 true (.int .u8), .srow 6 1000006 48 true (.int .u8), .srow 8 1000008 52 true (.int .i64)], hasRet := true, res := [.sv 4 true .bool] })]
noncomputable def law20_LbruleAfresh_C : List (Nat × Callee) := [(22, .plain law20_awake_fun), (24, .plain law19_Classes_fun), (28, .plain law20_of_fun), (26, .plain lbrule_Between_fun)]
noncomputable def law20_LbruleAfresh_fun : Fun := ⟨[.sl (.int .u8), .sl (.int .u8)], [.v .bool], fun x => law20_LbruleAfresh_F x.1 x.2.1⟩
theorem law20_LbruleAfresh_ev (x : Tys.I [.sl (.int .u8), .sl (.int .u8)]) : evFun G0 (fun f => olook f law20_LbruleAfresh_C) ⟨[], [], [], [], []⟩ (fun i => olook i law20_LbruleAfresh_L) Try.f10 [.sl (.int .u8), .sl (.int .u8)] [.v .bool] x = law20_LbruleAfresh_T x.1 x.2.1 := by kernel_rfl
theorem law20_LbruleAfresh_ok : FunOk Try.prog 10 law20_LbruleAfresh_fun := evFun_ok mixed ctx0 (cons_calls (fb := .plain law20_awake_fun) law20_awake_ok (fun h => by cases h) (cons_calls (fb := .plain law19_Classes_fun) law19_Classes_ok (fun h => by cases h) (cons_calls (fb := .plain law20_of_fun) law20_of_ok (fun h => by cases h) (cons_calls (fb := .plain lbrule_Between_fun) lbrule_Between_ok (fun h => by cases h) (no_calls))))) Try.func10 (by kernel_rfl) _ (fun x => congrArg Tr.run (law20_LbruleAfresh_ev x)) (by kernel_rfl) (by kernel_rfl)
/-! ### boustrophedon/boustrophedonlaw20.LbruleAhead -/
noncomputable def law20_LbruleAhead_L9 (a5 : List Int) (x7 : List Int) (y8 : List Int) (k9 : Int) : Tr (Lap (List Int × List Int × List Int × Int) (Sum Unit Bool)) :=
  .br (decide ((IntKind.i64.wrap (k9 + 1)) < (a5.length : Int))) (
    .bnd (idx x7 k9) fun x_10 =>
    .bnd (idx y8 k9) fun x_11 =>
    .br (x_10 != x_11) (
      .pure (.done (.inr false))) (
      .pure (.next (a5, x7, y8, IntKind.i64.wrap (k9 + 1))))) (
    .pure (.done (.inl ())))
noncomputable def law20_LbruleAhead_T (ns0 : List Int) (ms1 : List Int) : Tr Bool :=
  .bnd law20_awake_F fun c_1 =>
  .br (!c_1) (
    .pure false) (
    .bnd (law19_Classes_F ns0) fun c_2 =>
    .bnd (app 140737488355328 [] c_2) fun r_3 =>
    .bnd (law19_Classes_F ms1) fun c_4 =>
    .bnd (app 140737488355328 r_3 c_4) fun r_5 =>
    .bnd (law20_of_F c_2) fun c_6 =>
    .bnd (lbrule_Between_F c_6) fun c_7 =>
    .bnd (law20_of_F r_5) fun c_8 =>
    .bnd (lbrule_Between_F c_8) fun c_9 =>
    .br ((c_7.length : Int) != (c_2.length : Int)) (
      .pure false) (
      .br ((c_9.length : Int) != (r_5.length : Int)) (
        .pure false) (
        .alt (loopW (fun s => (law20_LbruleAhead_L9 s.1 s.2.1 s.2.2.1 s.2.2.2).run) (c_2, c_7, c_9, 0)) (fun l_12 =>
          .pure true) (fun l_13 =>
          .pure l_13))))
noncomputable def law20_LbruleAhead_F (ns0 : List Int) (ms1 : List Int) : Option Bool := (law20_LbruleAhead_T ns0 ms1).run
def law20_LbruleAhead_L : List (Nat × LoopAnn) := [(9, { head := [.srow 5 1000005 48 true (.int .u8), .srow 7 1000007 52 true (.int .i64), .srow 8 1000008 52 true (.int .i64), .sv 9 true (.int .i64)], xid := 0, out := [], hasRet := true, res := [.sv 4 true .bool] })]
noncomputable def law20_LbruleAhead_C : List (Nat × Callee) := [(22, .plain law20_awake_fun), (24, .plain law19_Classes_fun), (28, .plain law20_of_fun), (26, .plain lbrule_Between_fun)]
noncomputable def law20_LbruleAhead_fun : Fun := ⟨[.sl (.int .u8), .sl (.int .u8)], [.v .bool], fun x => law20_LbruleAhead_F x.1 x.2.1⟩
theorem law20_LbruleAhead_ev (x : Tys.I [.sl (.int .u8), .sl (.int .u8)]) : evFun G0 (fun f => olook f law20_LbruleAhead_C) ⟨[], [], [], [], []⟩ (fun i => olook i law20_LbruleAhead_L) Try.f12 [.sl (.int .u8), .sl (.int .u8)] [.v .bool] x = law20_LbruleAhead_T x.1 x.2.1 := by kernel_rfl
theorem law20_LbruleAhead_ok : FunOk Try.prog 12 law20_LbruleAhead_fun := evFun_ok mixed ctx0 (cons_calls (fb := .plain law20_awake_fun) law20_awake_ok (fun h => by cases h) (cons_calls (fb := .plain law19_Classes_fun) law19_Classes_ok (fun h => by cases h) (cons_calls (fb := .plain law20_of_fun) law20_of_ok (fun h => by cases h) (cons_calls (fb := .plain lbrule_Between_fun) lbrule_Between_ok (fun h => by cases h) (no_calls))))) Try.func12 (by kernel_rfl) _ (fun x => congrArg Tr.run (law20_LbruleAhead_ev x)) (by kernel_rfl) (by kernel_rfl)
end Go.Proofs.Ytgkoijnjoellgaa
