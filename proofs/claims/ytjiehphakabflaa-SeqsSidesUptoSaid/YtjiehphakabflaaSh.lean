/-
  The plain readings of the functions of this seat, by program; each is tied to the loaded function.
-/
import Derived.Test.YtjiehphakabflaaEvErr
import Derived.Test.YtjiehphakabflaaChecked
namespace Go.Proofs.Ytjiehphakabflaa
set_option maxRecDepth 100000
set_option linter.unusedVariables false

def G0 : Ctx := { ty := [(3, .int .i64), (4, .bool), (5, .int .u8), (22, .sl (.int .u8)), (25, .sl (.int .u8)), (29, .sl (.int .i64)), (33, .int .u8), (37, .sl (.st (.pair (.sl (.int .i64)) (.pair (.int .i64) (.pair (.int .u8) (.int .u8)))))), (41, .st (.pair (.sl (.int .i64)) (.pair (.int .i64) (.pair (.int .u8) (.int .u8))))), (46, .ptr (.st (.pair (.sl (.st (.pair (.int .i64) (.pair (.int .u8) .bool)))) (.pair (.int .i64) (.pair (.int .i64) (.int .i64)))))), (48, .st (.pair (.int .i64) (.pair (.int .u8) .bool))), (49, .sl (.st (.pair (.int .i64) (.pair (.int .u8) .bool)))), (51, .st (.pair (.sl (.st (.pair (.int .i64) (.pair (.int .u8) .bool)))) (.pair (.int .i64) (.pair (.int .i64) (.int .i64))))), (52, .sl .bool), (58, .sl (.sl (.int .i64))), (65, .st (.pair (.int .i64) (.pair (.int .i64) .bool))), (66, .sl (.st (.pair (.int .i64) (.pair (.int .i64) .bool)))), (75, .int .u64), (78, .int .u32), (81, .int .u64)], sls := [(22, ⟨5, .int .u8, 140737488355328⟩), (25, ⟨33, .int .u8, 140737488355328⟩), (29, ⟨3, .int .i64, 17592186044416⟩), (37, ⟨41, .st (.pair (.sl (.int .i64)) (.pair (.int .i64) (.pair (.int .u8) (.int .u8)))), 3518437208883⟩), (49, ⟨48, .st (.pair (.int .i64) (.pair (.int .u8) .bool)), 8796093022208⟩), (52, ⟨4, .bool, 140737488355328⟩), (58, ⟨29, .sl (.int .i64), 5864062014805⟩), (66, ⟨65, .st (.pair (.int .i64) (.pair (.int .i64) .bool)), 5864062014805⟩)], eqs := [], enos := [] }
theorem mixed : Try.prog.follows .mixedOrders = true := by kernel_rfl
theorem ctx0 : CtxOk Try.prog G0 := ctx_ok (by kernel_rfl)
theorem no_calls {Λ : List Nat} : ∀ f fa, olook f ([] : List (Nat × Callee)) = some fa → CalleeOk Try.prog f fa ∧ (fa.isPlain = false → inList f Λ = true) := fun _ _ h => by cases h
theorem cons_calls {Λ : List Nat} {k : Nat} {fb : Callee} {l : List (Nat × Callee)} (h : CalleeOk Try.prog k fb) (hi : fb.isPlain = false → inList k Λ = true) (hl : ∀ f fa, olook f l = some fa → CalleeOk Try.prog f fa ∧ (fa.isPlain = false → inList f Λ = true)) : ∀ f fa, olook f ((k, fb) :: l) = some fa → CalleeOk Try.prog f fa ∧ (fa.isPlain = false → inList f Λ = true) := by
  intro f fa hf
  rw [olook_cons] at hf
  split at hf
  · rename_i e; subst e; cases hf; exact ⟨h, hi⟩
  · exact hl f fa hf

/-! ### boustrophedon/bidic.Isolate -/
noncomputable def bidic_Isolate_T (c0 : Int) : Tr Bool :=
  .br (c0 == 19) (
    .pure true) (
    .br (c0 == 20) (
      .pure true) (
      .pure (c0 == 21)))
noncomputable def bidic_Isolate_F (c0 : Int) : Option Bool := (bidic_Isolate_T c0).run
def bidic_Isolate_L : List (Nat × LoopAnn) := []
noncomputable def bidic_Isolate_C : List (Nat × Callee) := []
noncomputable def bidic_Isolate_fun : Fun := ⟨[.int .u8], [.v .bool], fun x => bidic_Isolate_F x.1⟩
theorem bidic_Isolate_ev (x : Tys.I [.int .u8]) : evFun G0 (fun f => olook f bidic_Isolate_C) ⟨[], [], [], [], [], []⟩ (fun i => olook i bidic_Isolate_L) Try.f27 [.int .u8] [.v .bool] x = bidic_Isolate_T x.1 := by kernel_rfl
theorem bidic_Isolate_ok : FunOk Try.prog 27 bidic_Isolate_fun := evFun_ok mixed ctx0 (no_calls) Try.func27 (by kernel_rfl) _ (fun x => congrArg Tr.run (bidic_Isolate_ev x)) (by kernel_rfl) (by kernel_rfl)
/-! ### boustrophedon/bidic.Strong -/
noncomputable def bidic_Strong_T (c0 : Int) : Tr Bool :=
  .br (c0 == 0) (
    .pure true) (
    .br (c0 == 1) (
      .pure true) (
      .pure (c0 == 2)))
noncomputable def bidic_Strong_F (c0 : Int) : Option Bool := (bidic_Strong_T c0).run
def bidic_Strong_L : List (Nat × LoopAnn) := []
noncomputable def bidic_Strong_C : List (Nat × Callee) := []
noncomputable def bidic_Strong_fun : Fun := ⟨[.int .u8], [.v .bool], fun x => bidic_Strong_F x.1⟩
theorem bidic_Strong_ev (x : Tys.I [.int .u8]) : evFun G0 (fun f => olook f bidic_Strong_C) ⟨[], [], [], [], [], []⟩ (fun i => olook i bidic_Strong_L) Try.f43 [.int .u8] [.v .bool] x = bidic_Strong_T x.1 := by kernel_rfl
theorem bidic_Strong_ok : FunOk Try.prog 43 bidic_Strong_fun := evFun_ok mixed ctx0 (no_calls) Try.func43 (by kernel_rfl) _ (fun x => congrArg Tr.run (bidic_Strong_ev x)) (by kernel_rfl) (by kernel_rfl)
/-! ### boustrophedon/explicit.rightward -/
noncomputable def explicit_rightward_L5 (cs0 : List Int) (answers3 : List Bool) (right4 : Bool) (outside5 : List Bool) (i6 : Int) : Tr (Lap (List Int × List Bool × Bool × List Bool × Int) (List Bool)) :=
  .br (decide (i6 ≥ 0)) (
    .bnd (idx cs0 i6) fun x_2 =>
    .br (x_2 == 22) (
      .bnd (app 140737488355328 outside5 ([right4])) fun r_3 =>
      .pure (.next (cs0, answers3, false, r_3, IntKind.i64.wrap (i6 - 1)))) (
      .bnd (bidic_Isolate_F x_2) fun c_4 =>
      .br c_4 (
        .bnd (idx answers3 i6) fun x_5 =>
        .br (decide ((IntKind.i64.wrap ((outside5.length : Int) - 1)) ≥ 0)) (
          .bnd (idx outside5 (IntKind.i64.wrap ((outside5.length : Int) - 1))) fun x_6 =>
          .bnd (cut outside5 0 (IntKind.i64.wrap ((outside5.length : Int) - 1))) fun r_7 =>
          .pure (.next (cs0, answers3.set (Int.toNat i6) right4, x_6, r_7, IntKind.i64.wrap (i6 - 1)))) (
          .pure (.next (cs0, answers3.set (Int.toNat i6) right4, false, outside5, IntKind.i64.wrap (i6 - 1))))) (
        .bnd (bidic_Strong_F x_2) fun c_8 =>
        .br c_8 (
          .pure (.next (cs0, answers3, x_2 != 0, outside5, IntKind.i64.wrap (i6 - 1)))) (
          .pure (.next (cs0, answers3, right4, outside5, IntKind.i64.wrap (i6 - 1))))))) (
    .pure (.done answers3))
noncomputable def explicit_rightward_T (cs0 : List Int) : Tr (List Bool) :=
  .bnd (mk 140737488355328 false (cs0.length : Int)) fun r_1 =>
  .bnd (loopW (fun s => (explicit_rightward_L5 s.1 s.2.1 s.2.2.1 s.2.2.2.1 s.2.2.2.2).run) (cs0, r_1, false, [], IntKind.i64.wrap ((cs0.length : Int) - 1))) fun l_9 =>
  .pure l_9
noncomputable def explicit_rightward_F (cs0 : List Int) : Option (List Bool) := (explicit_rightward_T cs0).run
def explicit_rightward_L : List (Nat × LoopAnn) := [(5, { head := [.sv 0 false (.sl (.int .u8)), .srow 3 1000003 4 true .bool, .sv 4 true .bool, .srow 5 1000005 4 true .bool, .sv 6 true (.int .i64)], xid := 0, out := [.srow 3 1000003 4 true .bool], hasRet := false, res := [] })]
noncomputable def explicit_rightward_C : List (Nat × Callee) := [(27, .plain bidic_Isolate_fun), (43, .plain bidic_Strong_fun)]
noncomputable def explicit_rightward_fun : Fun := ⟨[.sl (.int .u8)], [.row 4 .bool], fun x => explicit_rightward_F x.1⟩
theorem explicit_rightward_ev (x : Tys.I [.sl (.int .u8)]) : evFun G0 (fun f => olook f explicit_rightward_C) ⟨[48], [], [], [], [], []⟩ (fun i => olook i explicit_rightward_L) Try.f24 [.sl (.int .u8)] [.row 4 .bool] x = explicit_rightward_T x.1 := by kernel_rfl
theorem explicit_rightward_ok : FunOk Try.prog 24 explicit_rightward_fun := evFun_ok mixed ctx0 (cons_calls (fb := .plain bidic_Isolate_fun) bidic_Isolate_ok (fun h => by cases h) (cons_calls (fb := .plain bidic_Strong_fun) bidic_Strong_ok (fun h => by cases h) (no_calls))) Try.func24 (by kernel_rfl) _ (fun x => congrArg Tr.run (explicit_rightward_ev x)) (by kernel_rfl) (by kernel_rfl)
/-! ### boustrophedon/bidic.Embedding -/
noncomputable def bidic_Embedding_T (c0 : Int) : Tr Bool :=
  .br (c0 == 14) (
    .pure true) (
    .br (c0 == 15) (
      .pure true) (
      .br (c0 == 16) (
        .pure true) (
        .pure (c0 == 17))))
noncomputable def bidic_Embedding_F (c0 : Int) : Option Bool := (bidic_Embedding_T c0).run
def bidic_Embedding_L : List (Nat × LoopAnn) := []
noncomputable def bidic_Embedding_C : List (Nat × Callee) := []
noncomputable def bidic_Embedding_fun : Fun := ⟨[.int .u8], [.v .bool], fun x => bidic_Embedding_F x.1⟩
theorem bidic_Embedding_ev (x : Tys.I [.int .u8]) : evFun G0 (fun f => olook f bidic_Embedding_C) ⟨[], [], [], [], [], []⟩ (fun i => olook i bidic_Embedding_L) Try.f25 [.int .u8] [.v .bool] x = bidic_Embedding_T x.1 := by kernel_rfl
theorem bidic_Embedding_ok : FunOk Try.prog 25 bidic_Embedding_fun := evFun_ok mixed ctx0 (no_calls) Try.func25 (by kernel_rfl) _ (fun x => congrArg Tr.run (bidic_Embedding_ev x)) (by kernel_rfl) (by kernel_rfl)
/-! ### (*boustrophedon/explicit.state).top -/
noncomputable def explicit_state_top_T (s0 : (List (Int × Int × Bool)) × Int × Int × Int) : Tr (((List (Int × Int × Bool)) × Int × Int × Int) × (Int × Int × Bool)) :=
  .bnd (idx s0.1 (IntKind.i64.wrap ((s0.1.length : Int) - 1))) fun x_1 =>
  .pure ((s0.1, s0.2.1, s0.2.2.1, s0.2.2.2), x_1)
noncomputable def explicit_state_top_F (s0 : (List (Int × Int × Bool)) × Int × Int × Int) : Option (((List (Int × Int × Bool)) × Int × Int × Int) × (Int × Int × Bool)) := (explicit_state_top_T s0).run
def explicit_state_top_L : List (Nat × LoopAnn) := []
noncomputable def explicit_state_top_C : List (Nat × Callee) := []
noncomputable def explicit_state_top_fun : HFun := ⟨51, (.st (.pair (.sl (.st (.pair (.int .i64) (.pair (.int .u8) .bool)))) (.pair (.int .i64) (.pair (.int .i64) (.int .i64))))), [(0, 48)], [], [.v (.st (.pair (.int .i64) (.pair (.int .u8) .bool)))], fun s _ => explicit_state_top_F s⟩
theorem explicit_state_top_ev (s : (List (Int × Int × Bool)) × Int × Int × Int) (x : Tys.I []) : evFunH G0 (fun f => olook f explicit_state_top_C) ⟨[], [], [], [], [], []⟩ (fun i => olook i explicit_state_top_L) Try.f28 51 (.st (.pair (.sl (.st (.pair (.int .i64) (.pair (.int .u8) .bool)))) (.pair (.int .i64) (.pair (.int .i64) (.int .i64))))) [(0, 48)] [] [.v (.st (.pair (.int .i64) (.pair (.int .u8) .bool)))] s x = explicit_state_top_T s := by kernel_rfl
theorem explicit_state_top_ok : HBoxOk Try.prog 28 explicit_state_top_fun := evFunH_ok mixed ctx0 (no_calls) Try.func28 (by kernel_rfl) _ (fun s x => congrArg Tr.run (explicit_state_top_ev s x)) (by kernel_rfl)
/-! ### (*boustrophedon/explicit.state).next -/
noncomputable def explicit_state_next_T (s0 : (List (Int × Int × Bool)) × Int × Int × Int) (right1 : Bool) : Tr (((List (Int × Int × Bool)) × Int × Int × Int) × Int) :=
  .br right1 (
    .bnd (explicit_state_top_F (s0.1, s0.2.1, s0.2.2.1, s0.2.2.2)) fun c_1 =>
    .pure ((c_1.1.1, c_1.1.2.1, c_1.1.2.2.1, c_1.1.2.2.2), ibits .or .i64 (IntKind.i64.wrap (c_1.2.1 + 1)) 1)) (
    .bnd (explicit_state_top_F (s0.1, s0.2.1, s0.2.2.1, s0.2.2.2)) fun c_2 =>
    .pure ((c_2.1.1, c_2.1.2.1, c_2.1.2.2.1, c_2.1.2.2.2), ibits .andNot .i64 (IntKind.i64.wrap (c_2.2.1 + 2)) 1))
noncomputable def explicit_state_next_F (s0 : (List (Int × Int × Bool)) × Int × Int × Int) (right1 : Bool) : Option (((List (Int × Int × Bool)) × Int × Int × Int) × Int) := (explicit_state_next_T s0 right1).run
def explicit_state_next_L : List (Nat × LoopAnn) := []
noncomputable def explicit_state_next_C : List (Nat × Callee) := [(28, .hbox explicit_state_top_fun)]
noncomputable def explicit_state_next_fun : HFun := ⟨51, (.st (.pair (.sl (.st (.pair (.int .i64) (.pair (.int .u8) .bool)))) (.pair (.int .i64) (.pair (.int .i64) (.int .i64))))), [(0, 48)], [.bool], [.v (.int .i64)], fun s x => explicit_state_next_F s x.1⟩
theorem explicit_state_next_ev (s : (List (Int × Int × Bool)) × Int × Int × Int) (x : Tys.I [.bool]) : evFunH G0 (fun f => olook f explicit_state_next_C) ⟨[], [], [28], [], [], []⟩ (fun i => olook i explicit_state_next_L) Try.f44 51 (.st (.pair (.sl (.st (.pair (.int .i64) (.pair (.int .u8) .bool)))) (.pair (.int .i64) (.pair (.int .i64) (.int .i64))))) [(0, 48)] [.bool] [.v (.int .i64)] s x = explicit_state_next_T s x.1 := by kernel_rfl
theorem explicit_state_next_ok : HBoxOk Try.prog 44 explicit_state_next_fun := evFunH_ok mixed ctx0 (cons_calls (fb := .hbox explicit_state_top_fun) explicit_state_top_ok (fun h => by rfl) (no_calls)) Try.func44 (by kernel_rfl) _ (fun s x => congrArg Tr.run (explicit_state_next_ev s x)) (by kernel_rfl)
/-! ### (*boustrophedon/explicit.state).fits -/
noncomputable def explicit_state_fits_T (s0 : (List (Int × Int × Bool)) × Int × Int × Int) (level1 : Int) : Tr (((List (Int × Int × Bool)) × Int × Int × Int) × Bool) :=
  .br (decide (level1 ≤ 125)) (
    .bnd (idx ([((), s0.2.1, s0.2.2.1, s0.2.2.2)]) 0) fun x_1 =>
    .br (x_1.2.1 == 0) (
      .bnd (idx ([((), s0.2.1, s0.2.2.1, s0.2.2.2)]) 0) fun x_2 =>
      .pure ((s0.1, s0.2.1, s0.2.2.1, s0.2.2.2), x_2.2.2.1 == 0)) (
      .pure ((s0.1, s0.2.1, s0.2.2.1, s0.2.2.2), false))) (
    .pure ((s0.1, s0.2.1, s0.2.2.1, s0.2.2.2), false))
noncomputable def explicit_state_fits_F (s0 : (List (Int × Int × Bool)) × Int × Int × Int) (level1 : Int) : Option (((List (Int × Int × Bool)) × Int × Int × Int) × Bool) := (explicit_state_fits_T s0 level1).run
def explicit_state_fits_L : List (Nat × LoopAnn) := []
noncomputable def explicit_state_fits_C : List (Nat × Callee) := []
noncomputable def explicit_state_fits_fun : HFun := ⟨51, (.st (.pair (.sl (.st (.pair (.int .i64) (.pair (.int .u8) .bool)))) (.pair (.int .i64) (.pair (.int .i64) (.int .i64))))), [(0, 48)], [.int .i64], [.v .bool], fun s x => explicit_state_fits_F s x.1⟩
theorem explicit_state_fits_ev (s : (List (Int × Int × Bool)) × Int × Int × Int) (x : Tys.I [.int .i64]) : evFunH G0 (fun f => olook f explicit_state_fits_C) ⟨[], [], [], [], [], []⟩ (fun i => olook i explicit_state_fits_L) Try.f45 51 (.st (.pair (.sl (.st (.pair (.int .i64) (.pair (.int .u8) .bool)))) (.pair (.int .i64) (.pair (.int .i64) (.int .i64))))) [(0, 48)] [.int .i64] [.v .bool] s x = explicit_state_fits_T s x.1 := by kernel_rfl
theorem explicit_state_fits_ok : HBoxOk Try.prog 45 explicit_state_fits_fun := evFunH_ok mixed ctx0 (no_calls) Try.func45 (by kernel_rfl) _ (fun s x => congrArg Tr.run (explicit_state_fits_ev s x)) (by kernel_rfl)
/-! ### (*boustrophedon/explicit.state).push -/
noncomputable def explicit_state_push_T (s0 : (List (Int × Int × Bool)) × Int × Int × Int) (x1 : Int × Int × Bool) : Tr (((List (Int × Int × Bool)) × Int × Int × Int) × Unit) :=
  .bnd (app 8796093022208 s0.1 ([x1])) fun r_1 =>
  .pure ((r_1, s0.2.1, s0.2.2.1, s0.2.2.2), ())
noncomputable def explicit_state_push_F (s0 : (List (Int × Int × Bool)) × Int × Int × Int) (x1 : Int × Int × Bool) : Option (((List (Int × Int × Bool)) × Int × Int × Int) × Unit) := (explicit_state_push_T s0 x1).run
def explicit_state_push_L : List (Nat × LoopAnn) := []
noncomputable def explicit_state_push_C : List (Nat × Callee) := []
noncomputable def explicit_state_push_fun : HFun := ⟨51, (.st (.pair (.sl (.st (.pair (.int .i64) (.pair (.int .u8) .bool)))) (.pair (.int .i64) (.pair (.int .i64) (.int .i64))))), [(0, 48)], [.st (.pair (.int .i64) (.pair (.int .u8) .bool))], [], fun s x => explicit_state_push_F s x.1⟩
theorem explicit_state_push_ev (s : (List (Int × Int × Bool)) × Int × Int × Int) (x : Tys.I [.st (.pair (.int .i64) (.pair (.int .u8) .bool))]) : evFunH G0 (fun f => olook f explicit_state_push_C) ⟨[], [], [], [], [], []⟩ (fun i => olook i explicit_state_push_L) Try.f46 51 (.st (.pair (.sl (.st (.pair (.int .i64) (.pair (.int .u8) .bool)))) (.pair (.int .i64) (.pair (.int .i64) (.int .i64))))) [(0, 48)] [.st (.pair (.int .i64) (.pair (.int .u8) .bool))] [] s x = explicit_state_push_T s x.1 := by kernel_rfl
theorem explicit_state_push_ok : HBoxOk Try.prog 46 explicit_state_push_fun := evFunH_ok mixed ctx0 (no_calls) Try.func46 (by kernel_rfl) _ (fun s x => congrArg Tr.run (explicit_state_push_ev s x)) (by kernel_rfl)
/-! ### boustrophedon/explicit.override -/
noncomputable def explicit_override_T (c0 : Int) : Tr Int :=
  .br (c0 == 17) (
    .pure 1) (
    .br (c0 == 15) (
      .pure 0) (
      .pure 13))
noncomputable def explicit_override_F (c0 : Int) : Option Int := (explicit_override_T c0).run
def explicit_override_L : List (Nat × LoopAnn) := []
noncomputable def explicit_override_C : List (Nat × Callee) := []
noncomputable def explicit_override_fun : Fun := ⟨[.int .u8], [.v (.int .u8)], fun x => explicit_override_F x.1⟩
theorem explicit_override_ev (x : Tys.I [.int .u8]) : evFun G0 (fun f => olook f explicit_override_C) ⟨[], [], [], [], [], []⟩ (fun i => olook i explicit_override_L) Try.f47 [.int .u8] [.v (.int .u8)] x = explicit_override_T x.1 := by kernel_rfl
theorem explicit_override_ok : FunOk Try.prog 47 explicit_override_fun := evFun_ok mixed ctx0 (no_calls) Try.func47 (by kernel_rfl) _ (fun x => congrArg Tr.run (explicit_override_ev x)) (by kernel_rfl) (by kernel_rfl)
/-! ### (*boustrophedon/explicit.state).embed -/
noncomputable def explicit_state_embed_T (s0 : (List (Int × Int × Bool)) × Int × Int × Int) (c1 : Int) : Tr (((List (Int × Int × Bool)) × Int × Int × Int) × Unit) :=
  .br (c1 == 16) (
    .bnd (explicit_state_next_F (s0.1, s0.2.1, s0.2.2.1, s0.2.2.2) true) fun c_1 =>
    .bnd (explicit_state_fits_F (c_1.1.1, c_1.1.2.1, c_1.1.2.2.1, c_1.1.2.2.2) c_1.2) fun c_2 =>
    .br c_2.2 (
      .bnd (explicit_override_F c1) fun c_3 =>
      .bnd (explicit_state_push_F (c_2.1.1, c_2.1.2.1, c_2.1.2.2.1, c_2.1.2.2.2) (c_1.2, c_3, false)) fun c_4 =>
      .pure ((c_4.1.1, c_4.1.2.1, c_4.1.2.2.1, c_4.1.2.2.2), ())) (
      .bnd (idx ([((), c_2.1.2.1, c_2.1.2.2.1, c_2.1.2.2.2)]) 0) fun x_5 =>
      .br (x_5.2.1 == 0) (
        .bnd (idx ([((), c_2.1.2.1, c_2.1.2.2.1, c_2.1.2.2.2)]) 0) fun x_6 =>
        .bnd (idx ([((), c_2.1.2.1, c_2.1.2.2.1, c_2.1.2.2.2)]) 0) fun x_7 =>
        .pure ((c_2.1.1, x_7.2.1, IntKind.i64.wrap (x_6.2.2.1 + 1), x_7.2.2.2), ())) (
        .pure ((c_2.1.1, c_2.1.2.1, c_2.1.2.2.1, c_2.1.2.2.2), ())))) (
    .bnd (explicit_state_next_F (s0.1, s0.2.1, s0.2.2.1, s0.2.2.2) (c1 == 17)) fun c_8 =>
    .bnd (explicit_state_fits_F (c_8.1.1, c_8.1.2.1, c_8.1.2.2.1, c_8.1.2.2.2) c_8.2) fun c_9 =>
    .br c_9.2 (
      .bnd (explicit_override_F c1) fun c_10 =>
      .bnd (explicit_state_push_F (c_9.1.1, c_9.1.2.1, c_9.1.2.2.1, c_9.1.2.2.2) (c_8.2, c_10, false)) fun c_11 =>
      .pure ((c_11.1.1, c_11.1.2.1, c_11.1.2.2.1, c_11.1.2.2.2), ())) (
      .bnd (idx ([((), c_9.1.2.1, c_9.1.2.2.1, c_9.1.2.2.2)]) 0) fun x_12 =>
      .br (x_12.2.1 == 0) (
        .bnd (idx ([((), c_9.1.2.1, c_9.1.2.2.1, c_9.1.2.2.2)]) 0) fun x_13 =>
        .bnd (idx ([((), c_9.1.2.1, c_9.1.2.2.1, c_9.1.2.2.2)]) 0) fun x_14 =>
        .pure ((c_9.1.1, x_14.2.1, IntKind.i64.wrap (x_13.2.2.1 + 1), x_14.2.2.2), ())) (
        .pure ((c_9.1.1, c_9.1.2.1, c_9.1.2.2.1, c_9.1.2.2.2), ()))))
noncomputable def explicit_state_embed_F (s0 : (List (Int × Int × Bool)) × Int × Int × Int) (c1 : Int) : Option (((List (Int × Int × Bool)) × Int × Int × Int) × Unit) := (explicit_state_embed_T s0 c1).run
def explicit_state_embed_L : List (Nat × LoopAnn) := []
noncomputable def explicit_state_embed_C : List (Nat × Callee) := [(44, .hbox explicit_state_next_fun), (45, .hbox explicit_state_fits_fun), (47, .plain explicit_override_fun), (46, .hbox explicit_state_push_fun)]
noncomputable def explicit_state_embed_fun : HFun := ⟨51, (.st (.pair (.sl (.st (.pair (.int .i64) (.pair (.int .u8) .bool)))) (.pair (.int .i64) (.pair (.int .i64) (.int .i64))))), [(0, 48)], [.int .u8], [], fun s x => explicit_state_embed_F s x.1⟩
theorem explicit_state_embed_ev (s : (List (Int × Int × Bool)) × Int × Int × Int) (x : Tys.I [.int .u8]) : evFunH G0 (fun f => olook f explicit_state_embed_C) ⟨[], [], [44, 45, 46], [], [], []⟩ (fun i => olook i explicit_state_embed_L) Try.f26 51 (.st (.pair (.sl (.st (.pair (.int .i64) (.pair (.int .u8) .bool)))) (.pair (.int .i64) (.pair (.int .i64) (.int .i64))))) [(0, 48)] [.int .u8] [] s x = explicit_state_embed_T s x.1 := by kernel_rfl
theorem explicit_state_embed_ok : HBoxOk Try.prog 26 explicit_state_embed_fun := evFunH_ok mixed ctx0 (cons_calls (fb := .hbox explicit_state_next_fun) explicit_state_next_ok (fun h => by rfl) (cons_calls (fb := .hbox explicit_state_fits_fun) explicit_state_fits_ok (fun h => by rfl) (cons_calls (fb := .plain explicit_override_fun) explicit_override_ok (fun h => by cases h) (cons_calls (fb := .hbox explicit_state_push_fun) explicit_state_push_ok (fun h => by rfl) (no_calls))))) Try.func26 (by kernel_rfl) _ (fun s x => congrArg Tr.run (explicit_state_embed_ev s x)) (by kernel_rfl)
/-! ### (*boustrophedon/explicit.state).under -/
noncomputable def explicit_state_under_T (s0 : (List (Int × Int × Bool)) × Int × Int × Int) (c1 : Int) : Tr (((List (Int × Int × Bool)) × Int × Int × Int) × Int) :=
  .bnd (explicit_state_top_F (s0.1, s0.2.1, s0.2.2.1, s0.2.2.2)) fun c_1 =>
  .br (c_1.2.2.1 == 13) (
    .pure ((c_1.1.1, c_1.1.2.1, c_1.1.2.2.1, c_1.1.2.2.2), c1)) (
    .bnd (explicit_state_top_F (c_1.1.1, c_1.1.2.1, c_1.1.2.2.1, c_1.1.2.2.2)) fun c_2 =>
    .pure ((c_2.1.1, c_2.1.2.1, c_2.1.2.2.1, c_2.1.2.2.2), c_2.2.2.1))
noncomputable def explicit_state_under_F (s0 : (List (Int × Int × Bool)) × Int × Int × Int) (c1 : Int) : Option (((List (Int × Int × Bool)) × Int × Int × Int) × Int) := (explicit_state_under_T s0 c1).run
def explicit_state_under_L : List (Nat × LoopAnn) := []
noncomputable def explicit_state_under_C : List (Nat × Callee) := [(28, .hbox explicit_state_top_fun)]
noncomputable def explicit_state_under_fun : HFun := ⟨51, (.st (.pair (.sl (.st (.pair (.int .i64) (.pair (.int .u8) .bool)))) (.pair (.int .i64) (.pair (.int .i64) (.int .i64))))), [(0, 48)], [.int .u8], [.v (.int .u8)], fun s x => explicit_state_under_F s x.1⟩
theorem explicit_state_under_ev (s : (List (Int × Int × Bool)) × Int × Int × Int) (x : Tys.I [.int .u8]) : evFunH G0 (fun f => olook f explicit_state_under_C) ⟨[], [], [28], [], [], []⟩ (fun i => olook i explicit_state_under_L) Try.f29 51 (.st (.pair (.sl (.st (.pair (.int .i64) (.pair (.int .u8) .bool)))) (.pair (.int .i64) (.pair (.int .i64) (.int .i64))))) [(0, 48)] [.int .u8] [.v (.int .u8)] s x = explicit_state_under_T s x.1 := by kernel_rfl
theorem explicit_state_under_ok : HBoxOk Try.prog 29 explicit_state_under_fun := evFunH_ok mixed ctx0 (cons_calls (fb := .hbox explicit_state_top_fun) explicit_state_top_ok (fun h => by rfl) (no_calls)) Try.func29 (by kernel_rfl) _ (fun s x => congrArg Tr.run (explicit_state_under_ev s x)) (by kernel_rfl)
/-! ### (*boustrophedon/explicit.state).enter -/
noncomputable def explicit_state_enter_T (s0 : (List (Int × Int × Bool)) × Int × Int × Int) (right1 : Bool) : Tr (((List (Int × Int × Bool)) × Int × Int × Int) × Unit) :=
  .bnd (explicit_state_next_F (s0.1, s0.2.1, s0.2.2.1, s0.2.2.2) right1) fun c_1 =>
  .bnd (explicit_state_fits_F (c_1.1.1, c_1.1.2.1, c_1.1.2.2.1, c_1.1.2.2.2) c_1.2) fun c_2 =>
  .br c_2.2 (
    .bnd (idx ([((), c_2.1.2.1, c_2.1.2.2.1, c_2.1.2.2.2)]) 0) fun x_3 =>
    .bnd (idx ([((), c_2.1.2.1, c_2.1.2.2.1, c_2.1.2.2.2)]) 0) fun x_4 =>
    .bnd (explicit_state_push_F (c_2.1.1, x_4.2.1, x_4.2.2.1, IntKind.i64.wrap (x_3.2.2.2 + 1)) (c_1.2, (13 : Int), true)) fun c_5 =>
    .pure ((c_5.1.1, c_5.1.2.1, c_5.1.2.2.1, c_5.1.2.2.2), ())) (
    .bnd (idx ([((), c_2.1.2.1, c_2.1.2.2.1, c_2.1.2.2.2)]) 0) fun x_6 =>
    .bnd (idx ([((), c_2.1.2.1, c_2.1.2.2.1, c_2.1.2.2.2)]) 0) fun x_7 =>
    .pure ((c_2.1.1, IntKind.i64.wrap (x_6.2.1 + 1), x_7.2.2.1, x_7.2.2.2), ()))
noncomputable def explicit_state_enter_F (s0 : (List (Int × Int × Bool)) × Int × Int × Int) (right1 : Bool) : Option (((List (Int × Int × Bool)) × Int × Int × Int) × Unit) := (explicit_state_enter_T s0 right1).run
def explicit_state_enter_L : List (Nat × LoopAnn) := []
noncomputable def explicit_state_enter_C : List (Nat × Callee) := [(44, .hbox explicit_state_next_fun), (45, .hbox explicit_state_fits_fun), (46, .hbox explicit_state_push_fun)]
noncomputable def explicit_state_enter_fun : HFun := ⟨51, (.st (.pair (.sl (.st (.pair (.int .i64) (.pair (.int .u8) .bool)))) (.pair (.int .i64) (.pair (.int .i64) (.int .i64))))), [(0, 48)], [.bool], [], fun s x => explicit_state_enter_F s x.1⟩
theorem explicit_state_enter_ev (s : (List (Int × Int × Bool)) × Int × Int × Int) (x : Tys.I [.bool]) : evFunH G0 (fun f => olook f explicit_state_enter_C) ⟨[], [], [44, 45, 46], [], [], []⟩ (fun i => olook i explicit_state_enter_L) Try.f30 51 (.st (.pair (.sl (.st (.pair (.int .i64) (.pair (.int .u8) .bool)))) (.pair (.int .i64) (.pair (.int .i64) (.int .i64))))) [(0, 48)] [.bool] [] s x = explicit_state_enter_T s x.1 := by kernel_rfl
theorem explicit_state_enter_ok : HBoxOk Try.prog 30 explicit_state_enter_fun := evFunH_ok mixed ctx0 (cons_calls (fb := .hbox explicit_state_next_fun) explicit_state_next_ok (fun h => by rfl) (cons_calls (fb := .hbox explicit_state_fits_fun) explicit_state_fits_ok (fun h => by rfl) (cons_calls (fb := .hbox explicit_state_push_fun) explicit_state_push_ok (fun h => by rfl) (no_calls)))) Try.func30 (by kernel_rfl) _ (fun s x => congrArg Tr.run (explicit_state_enter_ev s x)) (by kernel_rfl)
/-! ### (*boustrophedon/explicit.state).pop -/
noncomputable def explicit_state_pop_T (s0 : (List (Int × Int × Bool)) × Int × Int × Int) : Tr (((List (Int × Int × Bool)) × Int × Int × Int) × Unit) :=
  .bnd (cut s0.1 0 (IntKind.i64.wrap ((s0.1.length : Int) - 1))) fun r_1 =>
  .pure ((r_1, s0.2.1, s0.2.2.1, s0.2.2.2), ())
noncomputable def explicit_state_pop_F (s0 : (List (Int × Int × Bool)) × Int × Int × Int) : Option (((List (Int × Int × Bool)) × Int × Int × Int) × Unit) := (explicit_state_pop_T s0).run
def explicit_state_pop_L : List (Nat × LoopAnn) := []
noncomputable def explicit_state_pop_C : List (Nat × Callee) := []
noncomputable def explicit_state_pop_fun : HFun := ⟨51, (.st (.pair (.sl (.st (.pair (.int .i64) (.pair (.int .u8) .bool)))) (.pair (.int .i64) (.pair (.int .i64) (.int .i64))))), [(0, 48)], [], [], fun s _ => explicit_state_pop_F s⟩
theorem explicit_state_pop_ev (s : (List (Int × Int × Bool)) × Int × Int × Int) (x : Tys.I []) : evFunH G0 (fun f => olook f explicit_state_pop_C) ⟨[13], [], [], [], [], []⟩ (fun i => olook i explicit_state_pop_L) Try.f48 51 (.st (.pair (.sl (.st (.pair (.int .i64) (.pair (.int .u8) .bool)))) (.pair (.int .i64) (.pair (.int .i64) (.int .i64))))) [(0, 48)] [] [] s x = explicit_state_pop_T s := by kernel_rfl
theorem explicit_state_pop_ok : HBoxOk Try.prog 48 explicit_state_pop_fun := evFunH_ok mixed ctx0 (no_calls) Try.func48 (by kernel_rfl) _ (fun s x => congrArg Tr.run (explicit_state_pop_ev s x)) (by kernel_rfl)
/-! ### (*boustrophedon/explicit.state).leave -/
noncomputable def explicit_state_leave_L4 (s0 : (List (Int × Int × Bool)) × Int × Int × Int) : Tr (Lap ((List (Int × Int × Bool)) × Int × Int × Int) ((List (Int × Int × Bool)) × Int × Int × Int)) :=
  .bnd (explicit_state_top_F (s0.1, s0.2.1, s0.2.2.1, s0.2.2.2)) fun c_6 =>
  .br (!c_6.2.2.2) (
    .bnd (explicit_state_pop_F (c_6.1.1, c_6.1.2.1, c_6.1.2.2.1, c_6.1.2.2.2)) fun c_7 =>
    .pure (.next (c_7.1.1, c_7.1.2.1, c_7.1.2.2.1, c_7.1.2.2.2))) (
    .pure (.done (c_6.1.1, c_6.1.2.1, c_6.1.2.2.1, c_6.1.2.2.2)))
noncomputable def explicit_state_leave_T (s0 : (List (Int × Int × Bool)) × Int × Int × Int) : Tr (((List (Int × Int × Bool)) × Int × Int × Int) × Unit) :=
  .bnd (idx ([((), s0.2.1, s0.2.2.1, s0.2.2.2)]) 0) fun x_1 =>
  .br (decide (x_1.2.1 > 0)) (
    .bnd (idx ([((), s0.2.1, s0.2.2.1, s0.2.2.2)]) 0) fun x_2 =>
    .bnd (idx ([((), s0.2.1, s0.2.2.1, s0.2.2.2)]) 0) fun x_3 =>
    .pure ((s0.1, IntKind.i64.wrap (x_2.2.1 - 1), x_3.2.2.1, x_3.2.2.2), ())) (
    .bnd (idx ([((), s0.2.1, s0.2.2.1, s0.2.2.2)]) 0) fun x_4 =>
    .br (x_4.2.2.2 == 0) (
      .pure ((s0.1, s0.2.1, s0.2.2.1, s0.2.2.2), ())) (
      .bnd (idx ([((), s0.2.1, s0.2.2.1, s0.2.2.2)]) 0) fun x_5 =>
      .bnd (loopW (fun s => (explicit_state_leave_L4 s).run) (s0.1, x_5.2.1, (0 : Int), x_5.2.2.2)) fun l_8 =>
      .bnd (explicit_state_pop_F (l_8.1, l_8.2.1, l_8.2.2.1, l_8.2.2.2)) fun c_9 =>
      .bnd (idx ([((), c_9.1.2.1, c_9.1.2.2.1, c_9.1.2.2.2)]) 0) fun x_10 =>
      .bnd (idx ([((), c_9.1.2.1, c_9.1.2.2.1, c_9.1.2.2.2)]) 0) fun x_11 =>
      .pure ((c_9.1.1, x_11.2.1, x_11.2.2.1, IntKind.i64.wrap (x_10.2.2.2 - 1)), ())))
noncomputable def explicit_state_leave_F (s0 : (List (Int × Int × Bool)) × Int × Int × Int) : Option (((List (Int × Int × Bool)) × Int × Int × Int) × Unit) := (explicit_state_leave_T s0).run
def explicit_state_leave_L : List (Nat × LoopAnn) := [(4, { head := [.slboxh 0 51 (.st (.pair (.sl (.st (.pair (.int .i64) (.pair (.int .u8) .bool)))) (.pair (.int .i64) (.pair (.int .i64) (.int .i64))))) [(0, 48)]], xid := 0, out := [.slboxh 0 51 (.st (.pair (.sl (.st (.pair (.int .i64) (.pair (.int .u8) .bool)))) (.pair (.int .i64) (.pair (.int .i64) (.int .i64))))) [(0, 48)]], hasRet := false, res := [] })]
noncomputable def explicit_state_leave_C : List (Nat × Callee) := [(28, .hbox explicit_state_top_fun), (48, .hbox explicit_state_pop_fun)]
noncomputable def explicit_state_leave_fun : HFun := ⟨51, (.st (.pair (.sl (.st (.pair (.int .i64) (.pair (.int .u8) .bool)))) (.pair (.int .i64) (.pair (.int .i64) (.int .i64))))), [(0, 48)], [], [], fun s _ => explicit_state_leave_F s⟩
theorem explicit_state_leave_ev (s : (List (Int × Int × Bool)) × Int × Int × Int) (x : Tys.I []) : evFunH G0 (fun f => olook f explicit_state_leave_C) ⟨[], [], [28, 48], [], [], []⟩ (fun i => olook i explicit_state_leave_L) Try.f31 51 (.st (.pair (.sl (.st (.pair (.int .i64) (.pair (.int .u8) .bool)))) (.pair (.int .i64) (.pair (.int .i64) (.int .i64))))) [(0, 48)] [] [] s x = explicit_state_leave_T s := by kernel_rfl
theorem explicit_state_leave_ok : HBoxOk Try.prog 31 explicit_state_leave_fun := evFunH_ok mixed ctx0 (cons_calls (fb := .hbox explicit_state_top_fun) explicit_state_top_ok (fun h => by rfl) (cons_calls (fb := .hbox explicit_state_pop_fun) explicit_state_pop_ok (fun h => by rfl) (no_calls))) Try.func31 (by kernel_rfl) _ (fun s x => congrArg Tr.run (explicit_state_leave_ev s x)) (by kernel_rfl)
/-! ### (*boustrophedon/explicit.state).end -/
noncomputable def explicit_state_end_T (s0 : (List (Int × Int × Bool)) × Int × Int × Int) : Tr (((List (Int × Int × Bool)) × Int × Int × Int) × Unit) :=
  .bnd (idx ([((), s0.2.1, s0.2.2.1, s0.2.2.2)]) 0) fun x_1 =>
  .br (decide (x_1.2.1 > 0)) (
    .pure ((s0.1, s0.2.1, s0.2.2.1, s0.2.2.2), ())) (
    .bnd (idx ([((), s0.2.1, s0.2.2.1, s0.2.2.2)]) 0) fun x_2 =>
    .br (decide (x_2.2.2.1 > 0)) (
      .bnd (idx ([((), s0.2.1, s0.2.2.1, s0.2.2.2)]) 0) fun x_3 =>
      .bnd (idx ([((), s0.2.1, s0.2.2.1, s0.2.2.2)]) 0) fun x_4 =>
      .pure ((s0.1, x_4.2.1, IntKind.i64.wrap (x_3.2.2.1 - 1), x_4.2.2.2), ())) (
      .bnd (explicit_state_top_F (s0.1, s0.2.1, s0.2.2.1, s0.2.2.2)) fun c_5 =>
      .br (!c_5.2.2.2) (
        .br (decide ((c_5.1.1.length : Int) > 1)) (
          .bnd (explicit_state_pop_F (c_5.1.1, c_5.1.2.1, c_5.1.2.2.1, c_5.1.2.2.2)) fun c_6 =>
          .pure ((c_6.1.1, c_6.1.2.1, c_6.1.2.2.1, c_6.1.2.2.2), ())) (
          .pure ((c_5.1.1, c_5.1.2.1, c_5.1.2.2.1, c_5.1.2.2.2), ()))) (
        .pure ((c_5.1.1, c_5.1.2.1, c_5.1.2.2.1, c_5.1.2.2.2), ()))))
noncomputable def explicit_state_end_F (s0 : (List (Int × Int × Bool)) × Int × Int × Int) : Option (((List (Int × Int × Bool)) × Int × Int × Int) × Unit) := (explicit_state_end_T s0).run
def explicit_state_end_L : List (Nat × LoopAnn) := []
noncomputable def explicit_state_end_C : List (Nat × Callee) := [(28, .hbox explicit_state_top_fun), (48, .hbox explicit_state_pop_fun)]
noncomputable def explicit_state_end_fun : HFun := ⟨51, (.st (.pair (.sl (.st (.pair (.int .i64) (.pair (.int .u8) .bool)))) (.pair (.int .i64) (.pair (.int .i64) (.int .i64))))), [(0, 48)], [], [], fun s _ => explicit_state_end_F s⟩
theorem explicit_state_end_ev (s : (List (Int × Int × Bool)) × Int × Int × Int) (x : Tys.I []) : evFunH G0 (fun f => olook f explicit_state_end_C) ⟨[], [], [28, 48], [], [], []⟩ (fun i => olook i explicit_state_end_L) Try.f32 51 (.st (.pair (.sl (.st (.pair (.int .i64) (.pair (.int .u8) .bool)))) (.pair (.int .i64) (.pair (.int .i64) (.int .i64))))) [(0, 48)] [] [] s x = explicit_state_end_T s := by kernel_rfl
theorem explicit_state_end_ok : HBoxOk Try.prog 32 explicit_state_end_fun := evFunH_ok mixed ctx0 (cons_calls (fb := .hbox explicit_state_top_fun) explicit_state_top_ok (fun h => by rfl) (cons_calls (fb := .hbox explicit_state_pop_fun) explicit_state_pop_ok (fun h => by rfl) (no_calls))) Try.func32 (by kernel_rfl) _ (fun s x => congrArg Tr.run (explicit_state_end_ev s x)) (by kernel_rfl)
/-! ### boustrophedon/explicit.Resolve -/
noncomputable def explicit_Resolve_L6 (level1 : Int) (levels6 : List Int) (classes7 : List Int) (s8 : (List (Int × Int × Bool)) × Int × Int × Int) (right9 : List Bool) (t25 : List Int) (t26 : Int) (t27 : Int) : Tr (Lap (Int × List Int × List Int × ((List (Int × Int × Bool)) × Int × Int × Int) × List Bool × List Int × Int × Int) (List Int × List Int)) :=
  .br (decide (t27 < t26)) (
    .bnd (idx t25 t27) fun x_4 =>
    .bnd (idx levels6 t27) fun x_5 =>
    .bnd (idx classes7 t27) fun x_6 =>
    .bnd (bidic_Embedding_F x_4) fun c_7 =>
    .br c_7 (
      .bnd (explicit_state_embed_F (s8.1, s8.2.1, s8.2.2.1, s8.2.2.2) x_4) fun c_8 =>
      .pure (.next (level1, levels6.set (Int.toNat t27) (-1), classes7.set (Int.toNat t27) x_4, (c_8.1.1, c_8.1.2.1, c_8.1.2.2.1, c_8.1.2.2.2), right9, t25, t26, IntKind.i64.wrap (t27 + 1)))) (
      .bnd (bidic_Isolate_F x_4) fun c_9 =>
      .br c_9 (
        .bnd (explicit_state_top_F (s8.1, s8.2.1, s8.2.2.1, s8.2.2.2)) fun c_10 =>
        .bnd (explicit_state_under_F (c_10.1.1, c_10.1.2.1, c_10.1.2.2.1, c_10.1.2.2.2) x_4) fun c_11 =>
        .bnd (idx (levels6.set (Int.toNat t27) (-1)) t27) fun x_12 =>
        .bnd (idx (classes7.set (Int.toNat t27) x_4) t27) fun x_13 =>
        .br (x_4 == 20) (
          .bnd (explicit_state_enter_F (c_11.1.1, c_11.1.2.1, c_11.1.2.2.1, c_11.1.2.2.2) true) fun c_14 =>
          .pure (.next (level1, (levels6.set (Int.toNat t27) (-1)).set (Int.toNat t27) c_10.2.1, (classes7.set (Int.toNat t27) x_4).set (Int.toNat t27) c_11.2, (c_14.1.1, c_14.1.2.1, c_14.1.2.2.1, c_14.1.2.2.2), right9, t25, t26, IntKind.i64.wrap (t27 + 1)))) (
          .br (x_4 == 21) (
            .bnd (idx right9 t27) fun x_15 =>
            .bnd (explicit_state_enter_F (c_11.1.1, c_11.1.2.1, c_11.1.2.2.1, c_11.1.2.2.2) x_15) fun c_16 =>
            .pure (.next (level1, (levels6.set (Int.toNat t27) (-1)).set (Int.toNat t27) c_10.2.1, (classes7.set (Int.toNat t27) x_4).set (Int.toNat t27) c_11.2, (c_16.1.1, c_16.1.2.1, c_16.1.2.2.1, c_16.1.2.2.2), right9, t25, t26, IntKind.i64.wrap (t27 + 1)))) (
            .bnd (explicit_state_enter_F (c_11.1.1, c_11.1.2.1, c_11.1.2.2.1, c_11.1.2.2.2) false) fun c_17 =>
            .pure (.next (level1, (levels6.set (Int.toNat t27) (-1)).set (Int.toNat t27) c_10.2.1, (classes7.set (Int.toNat t27) x_4).set (Int.toNat t27) c_11.2, (c_17.1.1, c_17.1.2.1, c_17.1.2.2.1, c_17.1.2.2.2), right9, t25, t26, IntKind.i64.wrap (t27 + 1)))))) (
        .br (x_4 == 22) (
          .bnd (explicit_state_leave_F (s8.1, s8.2.1, s8.2.2.1, s8.2.2.2)) fun c_18 =>
          .bnd (explicit_state_top_F (c_18.1.1, c_18.1.2.1, c_18.1.2.2.1, c_18.1.2.2.2)) fun c_19 =>
          .bnd (explicit_state_under_F (c_19.1.1, c_19.1.2.1, c_19.1.2.2.1, c_19.1.2.2.2) x_4) fun c_20 =>
          .bnd (idx (levels6.set (Int.toNat t27) (-1)) t27) fun x_21 =>
          .bnd (idx (classes7.set (Int.toNat t27) x_4) t27) fun x_22 =>
          .pure (.next (level1, (levels6.set (Int.toNat t27) (-1)).set (Int.toNat t27) c_19.2.1, (classes7.set (Int.toNat t27) x_4).set (Int.toNat t27) c_20.2, (c_20.1.1, c_20.1.2.1, c_20.1.2.2.1, c_20.1.2.2.2), right9, t25, t26, IntKind.i64.wrap (t27 + 1)))) (
          .br (x_4 == 18) (
            .bnd (explicit_state_end_F (s8.1, s8.2.1, s8.2.2.1, s8.2.2.2)) fun c_23 =>
            .pure (.next (level1, levels6.set (Int.toNat t27) (-1), classes7.set (Int.toNat t27) x_4, (c_23.1.1, c_23.1.2.1, c_23.1.2.2.1, c_23.1.2.2.2), right9, t25, t26, IntKind.i64.wrap (t27 + 1)))) (
            .br (x_4 == 10) (
              .bnd (idx (levels6.set (Int.toNat t27) (-1)) t27) fun x_24 =>
              .pure (.next (level1, (levels6.set (Int.toNat t27) (-1)).set (Int.toNat t27) level1, classes7.set (Int.toNat t27) x_4, (s8.1, s8.2.1, s8.2.2.1, s8.2.2.2), right9, t25, t26, IntKind.i64.wrap (t27 + 1)))) (
              .br (x_4 != 9) (
                .bnd (explicit_state_top_F (s8.1, s8.2.1, s8.2.2.1, s8.2.2.2)) fun c_25 =>
                .bnd (explicit_state_under_F (c_25.1.1, c_25.1.2.1, c_25.1.2.2.1, c_25.1.2.2.2) x_4) fun c_26 =>
                .bnd (idx (levels6.set (Int.toNat t27) (-1)) t27) fun x_27 =>
                .bnd (idx (classes7.set (Int.toNat t27) x_4) t27) fun x_28 =>
                .pure (.next (level1, (levels6.set (Int.toNat t27) (-1)).set (Int.toNat t27) c_25.2.1, (classes7.set (Int.toNat t27) x_4).set (Int.toNat t27) c_26.2, (c_26.1.1, c_26.1.2.1, c_26.1.2.2.1, c_26.1.2.2.2), right9, t25, t26, IntKind.i64.wrap (t27 + 1)))) (
                .pure (.next (level1, levels6.set (Int.toNat t27) (-1), classes7.set (Int.toNat t27) x_4, (s8.1, s8.2.1, s8.2.2.1, s8.2.2.2), right9, t25, t26, IntKind.i64.wrap (t27 + 1)))))))))) (
    .pure (.done (levels6, classes7)))
noncomputable def explicit_Resolve_T (cs0 : List Int) (level1 : Int) : Tr (List Int × List Int) :=
  .bnd (mk 17592186044416 0 (cs0.length : Int)) fun r_1 =>
  .bnd (mk 140737488355328 0 (cs0.length : Int)) fun r_2 =>
  .bnd (explicit_rightward_F cs0) fun c_3 =>
  .bnd (loopW (fun s => (explicit_Resolve_L6 s.1 s.2.1 s.2.2.1 s.2.2.2.1 s.2.2.2.2.1 s.2.2.2.2.2.1 s.2.2.2.2.2.2.1 s.2.2.2.2.2.2.2).run) (level1, r_1, r_2, ([(level1, (13 : Int), false)], 0, 0, 0), c_3, cs0, (cs0.length : Int), 0)) fun l_29 =>
  .pure (l_29.1, l_29.2)
noncomputable def explicit_Resolve_F (cs0 : List Int) (level1 : Int) : Option (List Int × List Int) := (explicit_Resolve_T cs0 level1).run
def explicit_Resolve_L : List (Nat × LoopAnn) := [(6, { head := [.sv 1 false (.int .i64), .srow 6 1000006 3 true (.int .i64), .srow 7 1000007 33 true (.int .u8), .sboxh 8 1000008 51 (.st (.pair (.sl (.st (.pair (.int .i64) (.pair (.int .u8) .bool)))) (.pair (.int .i64) (.pair (.int .i64) (.int .i64))))) [(0, 48)], .srow 9 1000009 4 true .bool, .sv 25 false (.sl (.int .u8)), .sv 26 true (.int .i64), .sv 27 true (.int .i64)], xid := 0, out := [.srow 6 1000006 3 true (.int .i64), .srow 7 1000007 33 true (.int .u8)], hasRet := false, res := [] })]
noncomputable def explicit_Resolve_C : List (Nat × Callee) := [(24, .plain explicit_rightward_fun), (25, .plain bidic_Embedding_fun), (26, .hbox explicit_state_embed_fun), (27, .plain bidic_Isolate_fun), (28, .hbox explicit_state_top_fun), (29, .hbox explicit_state_under_fun), (30, .hbox explicit_state_enter_fun), (31, .hbox explicit_state_leave_fun), (32, .hbox explicit_state_end_fun)]
noncomputable def explicit_Resolve_fun : Fun := ⟨[.sl (.int .u8), .int .i64], [.row 3 (.int .i64), .row 33 (.int .u8)], fun x => explicit_Resolve_F x.1 x.2.1⟩
theorem explicit_Resolve_ev (x : Tys.I [.sl (.int .u8), .int .i64]) : evFun G0 (fun f => olook f explicit_Resolve_C) ⟨[], [], [26, 28, 29, 30, 31, 32], [], [], [(21, [(0, 48)])]⟩ (fun i => olook i explicit_Resolve_L) Try.f15 [.sl (.int .u8), .int .i64] [.row 3 (.int .i64), .row 33 (.int .u8)] x = explicit_Resolve_T x.1 x.2.1 := by kernel_rfl
theorem explicit_Resolve_ok : FunOk Try.prog 15 explicit_Resolve_fun := evFun_ok mixed ctx0 (cons_calls (fb := .plain explicit_rightward_fun) explicit_rightward_ok (fun h => by cases h) (cons_calls (fb := .plain bidic_Embedding_fun) bidic_Embedding_ok (fun h => by cases h) (cons_calls (fb := .hbox explicit_state_embed_fun) explicit_state_embed_ok (fun h => by rfl) (cons_calls (fb := .plain bidic_Isolate_fun) bidic_Isolate_ok (fun h => by cases h) (cons_calls (fb := .hbox explicit_state_top_fun) explicit_state_top_ok (fun h => by rfl) (cons_calls (fb := .hbox explicit_state_under_fun) explicit_state_under_ok (fun h => by rfl) (cons_calls (fb := .hbox explicit_state_enter_fun) explicit_state_enter_ok (fun h => by rfl) (cons_calls (fb := .hbox explicit_state_leave_fun) explicit_state_leave_ok (fun h => by rfl) (cons_calls (fb := .hbox explicit_state_end_fun) explicit_state_end_ok (fun h => by rfl) (no_calls)))))))))) Try.func15 (by kernel_rfl) _ (fun x => congrArg Tr.run (explicit_Resolve_ev x)) (by kernel_rfl) (by kernel_rfl)
/-! ### boustrophedon/boustrophedonlaw11.awake -/
noncomputable def law11_awake_T : Tr Bool :=
  .bnd (explicit_Resolve_F ([16, 0, 18, 0]) 0) fun c_1 =>
  .bnd (explicit_Resolve_F ([17, 0, 20, 22]) 0) fun c_2 =>
  .br ((c_1.1.length : Int) == 4) (
    .bnd (idx c_1.1 0) fun x_3 =>
    .br (x_3 == (-1)) (
      .bnd (idx c_1.1 1) fun x_4 =>
      .br (x_4 == 1) (
        .bnd (idx c_1.1 3) fun x_5 =>
        .br (x_5 == 0) (
          .br ((c_2.1.length : Int) == 4) (
            .br ((c_2.2.length : Int) == 4) (
              .bnd (idx c_2.1 2) fun x_6 =>
              .br (x_6 == 1) (
                .bnd (idx c_2.2 1) fun x_7 =>
                .br (x_7 == 1) (
                  .bnd (idx c_2.2 2) fun x_8 =>
                  .br (x_8 == 1) (
                    .bnd (idx c_2.2 3) fun x_9 =>
                    .pure (x_9 == 1)) (
                    .pure false)) (
                  .pure false)) (
                .pure false)) (
              .pure false)) (
            .pure false)) (
          .pure false)) (
        .pure false)) (
      .pure false)) (
    .pure false)
noncomputable def law11_awake_F : Option Bool := (law11_awake_T).run
def law11_awake_L : List (Nat × LoopAnn) := []
noncomputable def law11_awake_C : List (Nat × Callee) := [(15, .plain explicit_Resolve_fun)]
noncomputable def law11_awake_fun : Fun := ⟨[], [.v .bool], fun _ => law11_awake_F⟩
theorem law11_awake_ev (x : Tys.I []) : evFun G0 (fun f => olook f law11_awake_C) ⟨[], [], [], [], [], []⟩ (fun i => olook i law11_awake_L) Try.f12 [] [.v .bool] x = law11_awake_T := by kernel_rfl
theorem law11_awake_ok : FunOk Try.prog 12 law11_awake_fun := evFun_ok mixed ctx0 (cons_calls (fb := .plain explicit_Resolve_fun) explicit_Resolve_ok (fun h => by cases h) (no_calls)) Try.func12 (by kernel_rfl) _ (fun x => congrArg Tr.run (law11_awake_ev x)) (by kernel_rfl) (by kernel_rfl)
/-! ### boustrophedon/boustrophedonref10.up -/
noncomputable def ref10_up_T (l0 : Int) (odd1 : Bool) : Tr Int :=
  .br (!((((IntKind.i64.wrap (l0 + 1)).tmod 2) == 1) == odd1)) (
    .pure (IntKind.i64.wrap ((IntKind.i64.wrap (l0 + 1)) + 1))) (
    .pure (IntKind.i64.wrap (l0 + 1)))
noncomputable def ref10_up_F (l0 : Int) (odd1 : Bool) : Option Int := (ref10_up_T l0 odd1).run
def ref10_up_L : List (Nat × LoopAnn) := []
noncomputable def ref10_up_C : List (Nat × Callee) := []
noncomputable def ref10_up_fun : Fun := ⟨[.int .i64, .bool], [.v (.int .i64)], fun x => ref10_up_F x.1 x.2.1⟩
theorem ref10_up_ev (x : Tys.I [.int .i64, .bool]) : evFun G0 (fun f => olook f ref10_up_C) ⟨[], [], [], [], [], []⟩ (fun i => olook i ref10_up_L) Try.f40 [.int .i64, .bool] [.v (.int .i64)] x = ref10_up_T x.1 x.2.1 := by kernel_rfl
theorem ref10_up_ok : FunOk Try.prog 40 ref10_up_fun := evFun_ok mixed ctx0 (no_calls) Try.func40 (by kernel_rfl) _ (fun x => congrArg Tr.run (ref10_up_ev x)) (by kernel_rfl) (by kernel_rfl)
/-! ### boustrophedon/boustrophedonref10.beginning -/
noncomputable def ref10_beginning_T (c0 : Int) : Tr Bool :=
  .br (decide (c0 ≥ 19)) (
    .pure (decide (c0 ≤ 21))) (
    .pure false)
noncomputable def ref10_beginning_F (c0 : Int) : Option Bool := (ref10_beginning_T c0).run
def ref10_beginning_L : List (Nat × LoopAnn) := []
noncomputable def ref10_beginning_C : List (Nat × Callee) := []
noncomputable def ref10_beginning_fun : Fun := ⟨[.int .i64], [.v .bool], fun x => ref10_beginning_F x.1⟩
theorem ref10_beginning_ev (x : Tys.I [.int .i64]) : evFun G0 (fun f => olook f ref10_beginning_C) ⟨[], [], [], [], [], []⟩ (fun i => olook i ref10_beginning_L) Try.f41 [.int .i64] [.v .bool] x = ref10_beginning_T x.1 := by kernel_rfl
theorem ref10_beginning_ok : FunOk Try.prog 41 ref10_beginning_fun := evFun_ok mixed ctx0 (no_calls) Try.func41 (by kernel_rfl) _ (fun x => congrArg Tr.run (ref10_beginning_ev x)) (by kernel_rfl) (by kernel_rfl)
/-! ### boustrophedon/boustrophedonref10.Close -/
noncomputable def ref10_Close_L3 (cs0 : List Int) (n5 : Int) (k6 : Int) : Tr (Lap (List Int × Int × Int) (Sum (List Int) Int)) :=
  .br (decide (k6 < (cs0.length : Int))) (
    .bnd (idx cs0 k6) fun x_1 =>
    .bnd (ref10_beginning_F x_1) fun c_2 =>
    .br c_2 (
      .bnd (idx cs0 k6) fun x_3 =>
      .br (x_3 == 22) (
        .br ((IntKind.i64.wrap ((IntKind.i64.wrap (n5 + 1)) - 1)) == 0) (
          .pure (.done (.inr k6))) (
          .pure (.next (cs0, IntKind.i64.wrap ((IntKind.i64.wrap (n5 + 1)) - 1), IntKind.i64.wrap (k6 + 1))))) (
        .pure (.next (cs0, IntKind.i64.wrap (n5 + 1), IntKind.i64.wrap (k6 + 1))))) (
      .bnd (idx cs0 k6) fun x_4 =>
      .br (x_4 == 22) (
        .br ((IntKind.i64.wrap (n5 - 1)) == 0) (
          .pure (.done (.inr k6))) (
          .pure (.next (cs0, IntKind.i64.wrap (n5 - 1), IntKind.i64.wrap (k6 + 1))))) (
        .pure (.next (cs0, n5, IntKind.i64.wrap (k6 + 1)))))) (
    .pure (.done (.inl cs0)))
noncomputable def ref10_Close_T (cs0 : List Int) (at1 : Int) : Tr Int :=
  .alt (loopW (fun s => (ref10_Close_L3 s.1 s.2.1 s.2.2).run) (cs0, 0, at1)) (fun l_5 =>
    .pure (l_5.length : Int)) (fun l_6 =>
    .pure l_6)
noncomputable def ref10_Close_F (cs0 : List Int) (at1 : Int) : Option Int := (ref10_Close_T cs0 at1).run
def ref10_Close_L : List (Nat × LoopAnn) := [(3, { head := [.sv 0 false (.sl (.int .i64)), .sv 5 true (.int .i64), .sv 6 false (.int .i64)], xid := 0, out := [.sv 0 false (.sl (.int .i64))], hasRet := true, res := [.sv 4 false (.int .i64)] })]
noncomputable def ref10_Close_C : List (Nat × Callee) := [(41, .plain ref10_beginning_fun)]
noncomputable def ref10_Close_fun : Fun := ⟨[.sl (.int .i64), .int .i64], [.v (.int .i64)], fun x => ref10_Close_F x.1 x.2.1⟩
theorem ref10_Close_ev (x : Tys.I [.sl (.int .i64), .int .i64]) : evFun G0 (fun f => olook f ref10_Close_C) ⟨[], [], [], [], [], []⟩ (fun i => olook i ref10_Close_L) Try.f53 [.sl (.int .i64), .int .i64] [.v (.int .i64)] x = ref10_Close_T x.1 x.2.1 := by kernel_rfl
theorem ref10_Close_ok : FunOk Try.prog 53 ref10_Close_fun := evFun_ok mixed ctx0 (cons_calls (fb := .plain ref10_beginning_fun) ref10_beginning_ok (fun h => by cases h) (no_calls)) Try.func53 (by kernel_rfl) _ (fun x => congrArg Tr.run (ref10_Close_ev x)) (by kernel_rfl) (by kernel_rfl)
/-! ### boustrophedon/boustrophedonref10.First -/
noncomputable def ref10_First_L2 (cs0 : List Int) (inside1 : Bool) (other2 : Int) (k7 : Int) : Tr (Lap (List Int × Bool × Int × Int) (Sum Int Int)) :=
  .br (decide (k7 < (cs0.length : Int))) (
    .bnd (idx cs0 k7) fun x_1 =>
    .bnd (ref10_beginning_F x_1) fun c_2 =>
    .br c_2 (
      .bnd (ref10_Close_F cs0 k7) fun c_3 =>
      .pure (.next (cs0, inside1, other2, IntKind.i64.wrap (c_3 + 1)))) (
      .bnd (idx cs0 k7) fun x_4 =>
      .br (x_4 == 22) (
        .br inside1 (
          .pure (.done (.inr other2))) (
          .bnd (idx cs0 k7) fun x_5 =>
          .br (x_5 == 0) (
            .pure (.done (.inr 0))) (
            .bnd (idx cs0 k7) fun x_6 =>
            .br (x_6 == 1) (
              .pure (.done (.inr 1))) (
              .bnd (idx cs0 k7) fun x_7 =>
              .br (x_7 == 2) (
                .pure (.done (.inr 1))) (
                .pure (.next (cs0, inside1, other2, IntKind.i64.wrap (k7 + 1)))))))) (
        .bnd (idx cs0 k7) fun x_8 =>
        .br (x_8 == 0) (
          .pure (.done (.inr 0))) (
          .bnd (idx cs0 k7) fun x_9 =>
          .br (x_9 == 1) (
            .pure (.done (.inr 1))) (
            .bnd (idx cs0 k7) fun x_10 =>
            .br (x_10 == 2) (
              .pure (.done (.inr 1))) (
              .pure (.next (cs0, inside1, other2, IntKind.i64.wrap (k7 + 1))))))))) (
    .pure (.done (.inl other2)))
noncomputable def ref10_First_T (cs0 : List Int) (inside1 : Bool) (other2 : Int) : Tr Int :=
  .alt (loopW (fun s => (ref10_First_L2 s.1 s.2.1 s.2.2.1 s.2.2.2).run) (cs0, inside1, other2, 0)) (fun l_11 =>
    .pure l_11) (fun l_12 =>
    .pure l_12)
noncomputable def ref10_First_F (cs0 : List Int) (inside1 : Bool) (other2 : Int) : Option Int := (ref10_First_T cs0 inside1 other2).run
def ref10_First_L : List (Nat × LoopAnn) := [(2, { head := [.sv 0 false (.sl (.int .i64)), .sv 1 false .bool, .sv 2 false (.int .i64), .sv 7 true (.int .i64)], xid := 0, out := [.sv 2 false (.int .i64)], hasRet := true, res := [.sv 6 false (.int .i64)] })]
noncomputable def ref10_First_C : List (Nat × Callee) := [(41, .plain ref10_beginning_fun), (53, .plain ref10_Close_fun)]
noncomputable def ref10_First_fun : Fun := ⟨[.sl (.int .i64), .bool, .int .i64], [.v (.int .i64)], fun x => ref10_First_F x.1 x.2.1 x.2.2.1⟩
theorem ref10_First_ev (x : Tys.I [.sl (.int .i64), .bool, .int .i64]) : evFun G0 (fun f => olook f ref10_First_C) ⟨[], [], [], [], [], []⟩ (fun i => olook i ref10_First_L) Try.f42 [.sl (.int .i64), .bool, .int .i64] [.v (.int .i64)] x = ref10_First_T x.1 x.2.1 x.2.2.1 := by kernel_rfl
theorem ref10_First_ok : FunOk Try.prog 42 ref10_First_fun := evFun_ok mixed ctx0 (cons_calls (fb := .plain ref10_beginning_fun) ref10_beginning_ok (fun h => by cases h) (cons_calls (fb := .plain ref10_Close_fun) ref10_Close_ok (fun h => by cases h) (no_calls))) Try.func42 (by kernel_rfl) _ (fun x => congrArg Tr.run (ref10_First_ev x)) (by kernel_rfl) (by kernel_rfl)
/-! ### boustrophedon/boustrophedonref10.Resolve -/
noncomputable def ref10_Resolve_L43 (cs0 : List Int) (paragraph1 : Int) (stack6 : List (Int × Int × Bool)) (overIsolates7 : Int) (overEmbeddings8 : Int) (validIsolates9 : Int) (levels10 : List Int) (out11 : List Int) (k12 : Int) (top14 : Int × Int × Bool) : Tr (Lap (List Int × Int × (List (Int × Int × Bool)) × Int × Int × Int × List Int × List Int × Int × Int × Int × Bool) (List Int × Int × (List (Int × Int × Bool)) × Int × Int × Int × List Int × List Int × Int × Int × Int × Bool)) :=
  .bnd (idx stack6 (IntKind.i64.wrap ((stack6.length : Int) - 1))) fun x_42 =>
  .br (!x_42.2.2) (
    .bnd (cut stack6 0 (IntKind.i64.wrap ((stack6.length : Int) - 1))) fun r_43 =>
    .pure (.next (cs0, paragraph1, r_43, overIsolates7, overEmbeddings8, validIsolates9, levels10, out11, k12, top14))) (
    .pure (.done (cs0, paragraph1, stack6, overIsolates7, overEmbeddings8, validIsolates9, levels10, out11, k12, top14)))
noncomputable def ref10_Resolve_L8 (cs0 : List Int) (paragraph1 : Int) (stack6 : List (Int × Int × Bool)) (overIsolates7 : Int) (overEmbeddings8 : Int) (validIsolates9 : Int) (levels10 : List Int) (out11 : List Int) (k12 : Int) : Tr (Lap (List Int × Int × (List (Int × Int × Bool)) × Int × Int × Int × List Int × List Int × Int) (List Int × List Int)) :=
  .br (decide (k12 < (cs0.length : Int))) (
    .bnd (idx cs0 k12) fun x_3 =>
    .bnd (idx stack6 (IntKind.i64.wrap ((stack6.length : Int) - 1))) fun x_4 =>
    .bnd (idx out11 k12) fun x_5 =>
    .br (decide (x_3 ≥ 14)) (
      .br (decide (x_3 ≤ 17)) (
        .bnd (idx levels10 k12) fun x_6 =>
        .bnd (idx ([x_4]) 0) fun x_7 =>
        .br (x_3 == 16) (
          .bnd (ref10_up_F x_7.1 true) fun c_8 =>
          .br (x_3 == 15) (
            .br (x_3 == 17) (
              .br (decide (c_8 ≤ 125)) (
                .br (overIsolates7 == 0) (
                  .br (overEmbeddings8 == 0) (
                    .bnd (app 5864062014805 stack6 ([(c_8, (1 : Int), false)])) fun r_9 =>
                    .pure (.next (cs0, paragraph1, r_9, overIsolates7, overEmbeddings8, validIsolates9, levels10.set (Int.toNat k12) (-1), out11.set (Int.toNat k12) x_3, IntKind.i64.wrap (k12 + 1)))) (
                    .br (overIsolates7 == 0) (
                      .pure (.next (cs0, paragraph1, stack6, overIsolates7, IntKind.i64.wrap (overEmbeddings8 + 1), validIsolates9, levels10.set (Int.toNat k12) (-1), out11.set (Int.toNat k12) x_3, IntKind.i64.wrap (k12 + 1)))) (
                      .pure (.next (cs0, paragraph1, stack6, overIsolates7, overEmbeddings8, validIsolates9, levels10.set (Int.toNat k12) (-1), out11.set (Int.toNat k12) x_3, IntKind.i64.wrap (k12 + 1)))))) (
                  .br (overIsolates7 == 0) (
                    .pure (.next (cs0, paragraph1, stack6, overIsolates7, IntKind.i64.wrap (overEmbeddings8 + 1), validIsolates9, levels10.set (Int.toNat k12) (-1), out11.set (Int.toNat k12) x_3, IntKind.i64.wrap (k12 + 1)))) (
                    .pure (.next (cs0, paragraph1, stack6, overIsolates7, overEmbeddings8, validIsolates9, levels10.set (Int.toNat k12) (-1), out11.set (Int.toNat k12) x_3, IntKind.i64.wrap (k12 + 1)))))) (
                .br (overIsolates7 == 0) (
                  .pure (.next (cs0, paragraph1, stack6, overIsolates7, IntKind.i64.wrap (overEmbeddings8 + 1), validIsolates9, levels10.set (Int.toNat k12) (-1), out11.set (Int.toNat k12) x_3, IntKind.i64.wrap (k12 + 1)))) (
                  .pure (.next (cs0, paragraph1, stack6, overIsolates7, overEmbeddings8, validIsolates9, levels10.set (Int.toNat k12) (-1), out11.set (Int.toNat k12) x_3, IntKind.i64.wrap (k12 + 1)))))) (
              .br (decide (c_8 ≤ 125)) (
                .br (overIsolates7 == 0) (
                  .br (overEmbeddings8 == 0) (
                    .bnd (app 5864062014805 stack6 ([(c_8, (0 : Int), false)])) fun r_10 =>
                    .pure (.next (cs0, paragraph1, r_10, overIsolates7, overEmbeddings8, validIsolates9, levels10.set (Int.toNat k12) (-1), out11.set (Int.toNat k12) x_3, IntKind.i64.wrap (k12 + 1)))) (
                    .br (overIsolates7 == 0) (
                      .pure (.next (cs0, paragraph1, stack6, overIsolates7, IntKind.i64.wrap (overEmbeddings8 + 1), validIsolates9, levels10.set (Int.toNat k12) (-1), out11.set (Int.toNat k12) x_3, IntKind.i64.wrap (k12 + 1)))) (
                      .pure (.next (cs0, paragraph1, stack6, overIsolates7, overEmbeddings8, validIsolates9, levels10.set (Int.toNat k12) (-1), out11.set (Int.toNat k12) x_3, IntKind.i64.wrap (k12 + 1)))))) (
                  .br (overIsolates7 == 0) (
                    .pure (.next (cs0, paragraph1, stack6, overIsolates7, IntKind.i64.wrap (overEmbeddings8 + 1), validIsolates9, levels10.set (Int.toNat k12) (-1), out11.set (Int.toNat k12) x_3, IntKind.i64.wrap (k12 + 1)))) (
                    .pure (.next (cs0, paragraph1, stack6, overIsolates7, overEmbeddings8, validIsolates9, levels10.set (Int.toNat k12) (-1), out11.set (Int.toNat k12) x_3, IntKind.i64.wrap (k12 + 1)))))) (
                .br (overIsolates7 == 0) (
                  .pure (.next (cs0, paragraph1, stack6, overIsolates7, IntKind.i64.wrap (overEmbeddings8 + 1), validIsolates9, levels10.set (Int.toNat k12) (-1), out11.set (Int.toNat k12) x_3, IntKind.i64.wrap (k12 + 1)))) (
                  .pure (.next (cs0, paragraph1, stack6, overIsolates7, overEmbeddings8, validIsolates9, levels10.set (Int.toNat k12) (-1), out11.set (Int.toNat k12) x_3, IntKind.i64.wrap (k12 + 1))))))) (
            .br (x_3 == 17) (
              .br (decide (c_8 ≤ 125)) (
                .br (overIsolates7 == 0) (
                  .br (overEmbeddings8 == 0) (
                    .bnd (app 5864062014805 stack6 ([(c_8, (1 : Int), false)])) fun r_11 =>
                    .pure (.next (cs0, paragraph1, r_11, overIsolates7, overEmbeddings8, validIsolates9, levels10.set (Int.toNat k12) (-1), out11.set (Int.toNat k12) x_3, IntKind.i64.wrap (k12 + 1)))) (
                    .br (overIsolates7 == 0) (
                      .pure (.next (cs0, paragraph1, stack6, overIsolates7, IntKind.i64.wrap (overEmbeddings8 + 1), validIsolates9, levels10.set (Int.toNat k12) (-1), out11.set (Int.toNat k12) x_3, IntKind.i64.wrap (k12 + 1)))) (
                      .pure (.next (cs0, paragraph1, stack6, overIsolates7, overEmbeddings8, validIsolates9, levels10.set (Int.toNat k12) (-1), out11.set (Int.toNat k12) x_3, IntKind.i64.wrap (k12 + 1)))))) (
                  .br (overIsolates7 == 0) (
                    .pure (.next (cs0, paragraph1, stack6, overIsolates7, IntKind.i64.wrap (overEmbeddings8 + 1), validIsolates9, levels10.set (Int.toNat k12) (-1), out11.set (Int.toNat k12) x_3, IntKind.i64.wrap (k12 + 1)))) (
                    .pure (.next (cs0, paragraph1, stack6, overIsolates7, overEmbeddings8, validIsolates9, levels10.set (Int.toNat k12) (-1), out11.set (Int.toNat k12) x_3, IntKind.i64.wrap (k12 + 1)))))) (
                .br (overIsolates7 == 0) (
                  .pure (.next (cs0, paragraph1, stack6, overIsolates7, IntKind.i64.wrap (overEmbeddings8 + 1), validIsolates9, levels10.set (Int.toNat k12) (-1), out11.set (Int.toNat k12) x_3, IntKind.i64.wrap (k12 + 1)))) (
                  .pure (.next (cs0, paragraph1, stack6, overIsolates7, overEmbeddings8, validIsolates9, levels10.set (Int.toNat k12) (-1), out11.set (Int.toNat k12) x_3, IntKind.i64.wrap (k12 + 1)))))) (
              .br (decide (c_8 ≤ 125)) (
                .br (overIsolates7 == 0) (
                  .br (overEmbeddings8 == 0) (
                    .bnd (app 5864062014805 stack6 ([(c_8, ((-1) : Int), false)])) fun r_12 =>
                    .pure (.next (cs0, paragraph1, r_12, overIsolates7, overEmbeddings8, validIsolates9, levels10.set (Int.toNat k12) (-1), out11.set (Int.toNat k12) x_3, IntKind.i64.wrap (k12 + 1)))) (
                    .br (overIsolates7 == 0) (
                      .pure (.next (cs0, paragraph1, stack6, overIsolates7, IntKind.i64.wrap (overEmbeddings8 + 1), validIsolates9, levels10.set (Int.toNat k12) (-1), out11.set (Int.toNat k12) x_3, IntKind.i64.wrap (k12 + 1)))) (
                      .pure (.next (cs0, paragraph1, stack6, overIsolates7, overEmbeddings8, validIsolates9, levels10.set (Int.toNat k12) (-1), out11.set (Int.toNat k12) x_3, IntKind.i64.wrap (k12 + 1)))))) (
                  .br (overIsolates7 == 0) (
                    .pure (.next (cs0, paragraph1, stack6, overIsolates7, IntKind.i64.wrap (overEmbeddings8 + 1), validIsolates9, levels10.set (Int.toNat k12) (-1), out11.set (Int.toNat k12) x_3, IntKind.i64.wrap (k12 + 1)))) (
                    .pure (.next (cs0, paragraph1, stack6, overIsolates7, overEmbeddings8, validIsolates9, levels10.set (Int.toNat k12) (-1), out11.set (Int.toNat k12) x_3, IntKind.i64.wrap (k12 + 1)))))) (
                .br (overIsolates7 == 0) (
                  .pure (.next (cs0, paragraph1, stack6, overIsolates7, IntKind.i64.wrap (overEmbeddings8 + 1), validIsolates9, levels10.set (Int.toNat k12) (-1), out11.set (Int.toNat k12) x_3, IntKind.i64.wrap (k12 + 1)))) (
                  .pure (.next (cs0, paragraph1, stack6, overIsolates7, overEmbeddings8, validIsolates9, levels10.set (Int.toNat k12) (-1), out11.set (Int.toNat k12) x_3, IntKind.i64.wrap (k12 + 1)))))))) (
          .bnd (ref10_up_F x_7.1 (x_3 == 17)) fun c_13 =>
          .br (x_3 == 15) (
            .br (x_3 == 17) (
              .br (decide (c_13 ≤ 125)) (
                .br (overIsolates7 == 0) (
                  .br (overEmbeddings8 == 0) (
                    .bnd (app 5864062014805 stack6 ([(c_13, (1 : Int), false)])) fun r_14 =>
                    .pure (.next (cs0, paragraph1, r_14, overIsolates7, overEmbeddings8, validIsolates9, levels10.set (Int.toNat k12) (-1), out11.set (Int.toNat k12) x_3, IntKind.i64.wrap (k12 + 1)))) (
                    .br (overIsolates7 == 0) (
                      .pure (.next (cs0, paragraph1, stack6, overIsolates7, IntKind.i64.wrap (overEmbeddings8 + 1), validIsolates9, levels10.set (Int.toNat k12) (-1), out11.set (Int.toNat k12) x_3, IntKind.i64.wrap (k12 + 1)))) (
                      .pure (.next (cs0, paragraph1, stack6, overIsolates7, overEmbeddings8, validIsolates9, levels10.set (Int.toNat k12) (-1), out11.set (Int.toNat k12) x_3, IntKind.i64.wrap (k12 + 1)))))) (
                  .br (overIsolates7 == 0) (
                    .pure (.next (cs0, paragraph1, stack6, overIsolates7, IntKind.i64.wrap (overEmbeddings8 + 1), validIsolates9, levels10.set (Int.toNat k12) (-1), out11.set (Int.toNat k12) x_3, IntKind.i64.wrap (k12 + 1)))) (
                    .pure (.next (cs0, paragraph1, stack6, overIsolates7, overEmbeddings8, validIsolates9, levels10.set (Int.toNat k12) (-1), out11.set (Int.toNat k12) x_3, IntKind.i64.wrap (k12 + 1)))))) (
                .br (overIsolates7 == 0) (
                  .pure (.next (cs0, paragraph1, stack6, overIsolates7, IntKind.i64.wrap (overEmbeddings8 + 1), validIsolates9, levels10.set (Int.toNat k12) (-1), out11.set (Int.toNat k12) x_3, IntKind.i64.wrap (k12 + 1)))) (
                  .pure (.next (cs0, paragraph1, stack6, overIsolates7, overEmbeddings8, validIsolates9, levels10.set (Int.toNat k12) (-1), out11.set (Int.toNat k12) x_3, IntKind.i64.wrap (k12 + 1)))))) (
              .br (decide (c_13 ≤ 125)) (
                .br (overIsolates7 == 0) (
                  .br (overEmbeddings8 == 0) (
                    .bnd (app 5864062014805 stack6 ([(c_13, (0 : Int), false)])) fun r_15 =>
                    .pure (.next (cs0, paragraph1, r_15, overIsolates7, overEmbeddings8, validIsolates9, levels10.set (Int.toNat k12) (-1), out11.set (Int.toNat k12) x_3, IntKind.i64.wrap (k12 + 1)))) (
                    .br (overIsolates7 == 0) (
                      .pure (.next (cs0, paragraph1, stack6, overIsolates7, IntKind.i64.wrap (overEmbeddings8 + 1), validIsolates9, levels10.set (Int.toNat k12) (-1), out11.set (Int.toNat k12) x_3, IntKind.i64.wrap (k12 + 1)))) (
                      .pure (.next (cs0, paragraph1, stack6, overIsolates7, overEmbeddings8, validIsolates9, levels10.set (Int.toNat k12) (-1), out11.set (Int.toNat k12) x_3, IntKind.i64.wrap (k12 + 1)))))) (
                  .br (overIsolates7 == 0) (
                    .pure (.next (cs0, paragraph1, stack6, overIsolates7, IntKind.i64.wrap (overEmbeddings8 + 1), validIsolates9, levels10.set (Int.toNat k12) (-1), out11.set (Int.toNat k12) x_3, IntKind.i64.wrap (k12 + 1)))) (
                    .pure (.next (cs0, paragraph1, stack6, overIsolates7, overEmbeddings8, validIsolates9, levels10.set (Int.toNat k12) (-1), out11.set (Int.toNat k12) x_3, IntKind.i64.wrap (k12 + 1)))))) (
                .br (overIsolates7 == 0) (
                  .pure (.next (cs0, paragraph1, stack6, overIsolates7, IntKind.i64.wrap (overEmbeddings8 + 1), validIsolates9, levels10.set (Int.toNat k12) (-1), out11.set (Int.toNat k12) x_3, IntKind.i64.wrap (k12 + 1)))) (
                  .pure (.next (cs0, paragraph1, stack6, overIsolates7, overEmbeddings8, validIsolates9, levels10.set (Int.toNat k12) (-1), out11.set (Int.toNat k12) x_3, IntKind.i64.wrap (k12 + 1))))))) (
            .br (x_3 == 17) (
              .br (decide (c_13 ≤ 125)) (
                .br (overIsolates7 == 0) (
                  .br (overEmbeddings8 == 0) (
                    .bnd (app 5864062014805 stack6 ([(c_13, (1 : Int), false)])) fun r_16 =>
                    .pure (.next (cs0, paragraph1, r_16, overIsolates7, overEmbeddings8, validIsolates9, levels10.set (Int.toNat k12) (-1), out11.set (Int.toNat k12) x_3, IntKind.i64.wrap (k12 + 1)))) (
                    .br (overIsolates7 == 0) (
                      .pure (.next (cs0, paragraph1, stack6, overIsolates7, IntKind.i64.wrap (overEmbeddings8 + 1), validIsolates9, levels10.set (Int.toNat k12) (-1), out11.set (Int.toNat k12) x_3, IntKind.i64.wrap (k12 + 1)))) (
                      .pure (.next (cs0, paragraph1, stack6, overIsolates7, overEmbeddings8, validIsolates9, levels10.set (Int.toNat k12) (-1), out11.set (Int.toNat k12) x_3, IntKind.i64.wrap (k12 + 1)))))) (
                  .br (overIsolates7 == 0) (
                    .pure (.next (cs0, paragraph1, stack6, overIsolates7, IntKind.i64.wrap (overEmbeddings8 + 1), validIsolates9, levels10.set (Int.toNat k12) (-1), out11.set (Int.toNat k12) x_3, IntKind.i64.wrap (k12 + 1)))) (
                    .pure (.next (cs0, paragraph1, stack6, overIsolates7, overEmbeddings8, validIsolates9, levels10.set (Int.toNat k12) (-1), out11.set (Int.toNat k12) x_3, IntKind.i64.wrap (k12 + 1)))))) (
                .br (overIsolates7 == 0) (
                  .pure (.next (cs0, paragraph1, stack6, overIsolates7, IntKind.i64.wrap (overEmbeddings8 + 1), validIsolates9, levels10.set (Int.toNat k12) (-1), out11.set (Int.toNat k12) x_3, IntKind.i64.wrap (k12 + 1)))) (
                  .pure (.next (cs0, paragraph1, stack6, overIsolates7, overEmbeddings8, validIsolates9, levels10.set (Int.toNat k12) (-1), out11.set (Int.toNat k12) x_3, IntKind.i64.wrap (k12 + 1)))))) (
              .br (decide (c_13 ≤ 125)) (
                .br (overIsolates7 == 0) (
                  .br (overEmbeddings8 == 0) (
                    .bnd (app 5864062014805 stack6 ([(c_13, ((-1) : Int), false)])) fun r_17 =>
                    .pure (.next (cs0, paragraph1, r_17, overIsolates7, overEmbeddings8, validIsolates9, levels10.set (Int.toNat k12) (-1), out11.set (Int.toNat k12) x_3, IntKind.i64.wrap (k12 + 1)))) (
                    .br (overIsolates7 == 0) (
                      .pure (.next (cs0, paragraph1, stack6, overIsolates7, IntKind.i64.wrap (overEmbeddings8 + 1), validIsolates9, levels10.set (Int.toNat k12) (-1), out11.set (Int.toNat k12) x_3, IntKind.i64.wrap (k12 + 1)))) (
                      .pure (.next (cs0, paragraph1, stack6, overIsolates7, overEmbeddings8, validIsolates9, levels10.set (Int.toNat k12) (-1), out11.set (Int.toNat k12) x_3, IntKind.i64.wrap (k12 + 1)))))) (
                  .br (overIsolates7 == 0) (
                    .pure (.next (cs0, paragraph1, stack6, overIsolates7, IntKind.i64.wrap (overEmbeddings8 + 1), validIsolates9, levels10.set (Int.toNat k12) (-1), out11.set (Int.toNat k12) x_3, IntKind.i64.wrap (k12 + 1)))) (
                    .pure (.next (cs0, paragraph1, stack6, overIsolates7, overEmbeddings8, validIsolates9, levels10.set (Int.toNat k12) (-1), out11.set (Int.toNat k12) x_3, IntKind.i64.wrap (k12 + 1)))))) (
                .br (overIsolates7 == 0) (
                  .pure (.next (cs0, paragraph1, stack6, overIsolates7, IntKind.i64.wrap (overEmbeddings8 + 1), validIsolates9, levels10.set (Int.toNat k12) (-1), out11.set (Int.toNat k12) x_3, IntKind.i64.wrap (k12 + 1)))) (
                  .pure (.next (cs0, paragraph1, stack6, overIsolates7, overEmbeddings8, validIsolates9, levels10.set (Int.toNat k12) (-1), out11.set (Int.toNat k12) x_3, IntKind.i64.wrap (k12 + 1))))))))) (
        .bnd (ref10_beginning_F x_3) fun c_18 =>
        .br c_18 (
          .bnd (idx ([x_4]) 0) fun x_19 =>
          .bnd (idx levels10 k12) fun x_20 =>
          .bnd (idx ([x_4]) 0) fun x_21 =>
          .br (decide (x_21.2.1 ≥ 0)) (
            .bnd (idx ([x_4]) 0) fun x_22 =>
            .bnd (idx (out11.set (Int.toNat k12) x_3) k12) fun x_23 =>
            .bnd (Tr.run (
    .br (x_3 == 20) (
      .pure (cs0, paragraph1, stack6, overIsolates7, overEmbeddings8, validIsolates9, levels10.set (Int.toNat k12) x_19.1, (out11.set (Int.toNat k12) x_3).set (Int.toNat k12) x_22.2.1, k12, x_4, true)) (
      .br (x_3 == 21) (
        .bnd (cut cs0 (IntKind.i64.wrap (k12 + 1)) (cs0.length : Int)) fun r_24 =>
        .bnd (ref10_First_F r_24 true 0) fun c_25 =>
        .pure (cs0, paragraph1, stack6, overIsolates7, overEmbeddings8, validIsolates9, levels10.set (Int.toNat k12) x_19.1, (out11.set (Int.toNat k12) x_3).set (Int.toNat k12) x_22.2.1, k12, x_4, c_25 == 1)) (
        .pure (cs0, paragraph1, stack6, overIsolates7, overEmbeddings8, validIsolates9, levels10.set (Int.toNat k12) x_19.1, (out11.set (Int.toNat k12) x_3).set (Int.toNat k12) x_22.2.1, k12, x_4, false))) : Tr (List Int × Int × (List (Int × Int × Bool)) × Int × Int × Int × List Int × List Int × Int × (Int × Int × Bool) × Bool))) fun j_26 =>
            .bnd (idx ([j_26.2.2.2.2.2.2.2.2.2.1]) 0) fun x_27 =>
            .bnd (ref10_up_F x_27.1 j_26.2.2.2.2.2.2.2.2.2.2) fun c_28 =>
            .br (decide (c_28 ≤ 125)) (
              .br (j_26.2.2.2.1 == 0) (
                .br (j_26.2.2.2.2.1 == 0) (
                  .bnd (app 5864062014805 j_26.2.2.1 ([(c_28, ((-1) : Int), true)])) fun r_29 =>
                  .pure (.next (j_26.1, j_26.2.1, r_29, j_26.2.2.2.1, j_26.2.2.2.2.1, IntKind.i64.wrap (j_26.2.2.2.2.2.1 + 1), j_26.2.2.2.2.2.2.1, j_26.2.2.2.2.2.2.2.1, IntKind.i64.wrap (j_26.2.2.2.2.2.2.2.2.1 + 1)))) (
                  .pure (.next (j_26.1, j_26.2.1, j_26.2.2.1, IntKind.i64.wrap (j_26.2.2.2.1 + 1), j_26.2.2.2.2.1, j_26.2.2.2.2.2.1, j_26.2.2.2.2.2.2.1, j_26.2.2.2.2.2.2.2.1, IntKind.i64.wrap (j_26.2.2.2.2.2.2.2.2.1 + 1))))) (
                .pure (.next (j_26.1, j_26.2.1, j_26.2.2.1, IntKind.i64.wrap (j_26.2.2.2.1 + 1), j_26.2.2.2.2.1, j_26.2.2.2.2.2.1, j_26.2.2.2.2.2.2.1, j_26.2.2.2.2.2.2.2.1, IntKind.i64.wrap (j_26.2.2.2.2.2.2.2.2.1 + 1))))) (
              .pure (.next (j_26.1, j_26.2.1, j_26.2.2.1, IntKind.i64.wrap (j_26.2.2.2.1 + 1), j_26.2.2.2.2.1, j_26.2.2.2.2.2.1, j_26.2.2.2.2.2.2.1, j_26.2.2.2.2.2.2.2.1, IntKind.i64.wrap (j_26.2.2.2.2.2.2.2.2.1 + 1))))) (
            .bnd (Tr.run (
    .br (x_3 == 20) (
      .pure (cs0, paragraph1, stack6, overIsolates7, overEmbeddings8, validIsolates9, levels10.set (Int.toNat k12) x_19.1, out11.set (Int.toNat k12) x_3, k12, x_4, true)) (
      .br (x_3 == 21) (
        .bnd (cut cs0 (IntKind.i64.wrap (k12 + 1)) (cs0.length : Int)) fun r_30 =>
        .bnd (ref10_First_F r_30 true 0) fun c_31 =>
        .pure (cs0, paragraph1, stack6, overIsolates7, overEmbeddings8, validIsolates9, levels10.set (Int.toNat k12) x_19.1, out11.set (Int.toNat k12) x_3, k12, x_4, c_31 == 1)) (
        .pure (cs0, paragraph1, stack6, overIsolates7, overEmbeddings8, validIsolates9, levels10.set (Int.toNat k12) x_19.1, out11.set (Int.toNat k12) x_3, k12, x_4, false))) : Tr (List Int × Int × (List (Int × Int × Bool)) × Int × Int × Int × List Int × List Int × Int × (Int × Int × Bool) × Bool))) fun j_32 =>
            .bnd (idx ([j_32.2.2.2.2.2.2.2.2.2.1]) 0) fun x_33 =>
            .bnd (ref10_up_F x_33.1 j_32.2.2.2.2.2.2.2.2.2.2) fun c_34 =>
            .br (decide (c_34 ≤ 125)) (
              .br (j_32.2.2.2.1 == 0) (
                .br (j_32.2.2.2.2.1 == 0) (
                  .bnd (app 5864062014805 j_32.2.2.1 ([(c_34, ((-1) : Int), true)])) fun r_35 =>
                  .pure (.next (j_32.1, j_32.2.1, r_35, j_32.2.2.2.1, j_32.2.2.2.2.1, IntKind.i64.wrap (j_32.2.2.2.2.2.1 + 1), j_32.2.2.2.2.2.2.1, j_32.2.2.2.2.2.2.2.1, IntKind.i64.wrap (j_32.2.2.2.2.2.2.2.2.1 + 1)))) (
                  .pure (.next (j_32.1, j_32.2.1, j_32.2.2.1, IntKind.i64.wrap (j_32.2.2.2.1 + 1), j_32.2.2.2.2.1, j_32.2.2.2.2.2.1, j_32.2.2.2.2.2.2.1, j_32.2.2.2.2.2.2.2.1, IntKind.i64.wrap (j_32.2.2.2.2.2.2.2.2.1 + 1))))) (
                .pure (.next (j_32.1, j_32.2.1, j_32.2.2.1, IntKind.i64.wrap (j_32.2.2.2.1 + 1), j_32.2.2.2.2.1, j_32.2.2.2.2.2.1, j_32.2.2.2.2.2.2.1, j_32.2.2.2.2.2.2.2.1, IntKind.i64.wrap (j_32.2.2.2.2.2.2.2.2.1 + 1))))) (
              .pure (.next (j_32.1, j_32.2.1, j_32.2.2.1, IntKind.i64.wrap (j_32.2.2.2.1 + 1), j_32.2.2.2.2.1, j_32.2.2.2.2.2.1, j_32.2.2.2.2.2.2.1, j_32.2.2.2.2.2.2.2.1, IntKind.i64.wrap (j_32.2.2.2.2.2.2.2.2.1 + 1)))))) (
          .br (x_3 == 22) (
            .br (decide (overIsolates7 > 0)) (
              .bnd (idx stack6 (IntKind.i64.wrap ((stack6.length : Int) - 1))) fun x_36 =>
              .bnd (idx ([x_36]) 0) fun x_37 =>
              .bnd (idx levels10 k12) fun x_38 =>
              .bnd (idx ([x_36]) 0) fun x_39 =>
              .br (decide (x_39.2.1 ≥ 0)) (
                .bnd (idx ([x_36]) 0) fun x_40 =>
                .bnd (idx (out11.set (Int.toNat k12) x_3) k12) fun x_41 =>
                .pure (.next (cs0, paragraph1, stack6, IntKind.i64.wrap (overIsolates7 - 1), overEmbeddings8, validIsolates9, levels10.set (Int.toNat k12) x_37.1, (out11.set (Int.toNat k12) x_3).set (Int.toNat k12) x_40.2.1, IntKind.i64.wrap (k12 + 1)))) (
                .pure (.next (cs0, paragraph1, stack6, IntKind.i64.wrap (overIsolates7 - 1), overEmbeddings8, validIsolates9, levels10.set (Int.toNat k12) x_37.1, out11.set (Int.toNat k12) x_3, IntKind.i64.wrap (k12 + 1))))) (
              .br (decide (validIsolates9 > 0)) (
                .bnd (loopW (fun s => (ref10_Resolve_L43 s.1 s.2.1 s.2.2.1 s.2.2.2.1 s.2.2.2.2.1 s.2.2.2.2.2.1 s.2.2.2.2.2.2.1 s.2.2.2.2.2.2.2.1 s.2.2.2.2.2.2.2.2.1 s.2.2.2.2.2.2.2.2.2).run) (cs0, paragraph1, stack6, overIsolates7, 0, validIsolates9, levels10, out11.set (Int.toNat k12) x_3, k12, x_4)) fun l_44 =>
                .bnd (cut l_44.2.2.1 0 (IntKind.i64.wrap ((l_44.2.2.1.length : Int) - 1))) fun r_45 =>
                .bnd (idx r_45 (IntKind.i64.wrap ((r_45.length : Int) - 1))) fun x_46 =>
                .bnd (idx ([x_46]) 0) fun x_47 =>
                .bnd (idx l_44.2.2.2.2.2.2.1 l_44.2.2.2.2.2.2.2.2.1) fun x_48 =>
                .bnd (idx ([x_46]) 0) fun x_49 =>
                .br (decide (x_49.2.1 ≥ 0)) (
                  .bnd (idx ([x_46]) 0) fun x_50 =>
                  .bnd (idx l_44.2.2.2.2.2.2.2.1 l_44.2.2.2.2.2.2.2.2.1) fun x_51 =>
                  .pure (.next (l_44.1, l_44.2.1, r_45, l_44.2.2.2.1, l_44.2.2.2.2.1, IntKind.i64.wrap (l_44.2.2.2.2.2.1 - 1), l_44.2.2.2.2.2.2.1.set (Int.toNat l_44.2.2.2.2.2.2.2.2.1) x_47.1, l_44.2.2.2.2.2.2.2.1.set (Int.toNat l_44.2.2.2.2.2.2.2.2.1) x_50.2.1, IntKind.i64.wrap (l_44.2.2.2.2.2.2.2.2.1 + 1)))) (
                  .pure (.next (l_44.1, l_44.2.1, r_45, l_44.2.2.2.1, l_44.2.2.2.2.1, IntKind.i64.wrap (l_44.2.2.2.2.2.1 - 1), l_44.2.2.2.2.2.2.1.set (Int.toNat l_44.2.2.2.2.2.2.2.2.1) x_47.1, l_44.2.2.2.2.2.2.2.1, IntKind.i64.wrap (l_44.2.2.2.2.2.2.2.2.1 + 1))))) (
                .bnd (idx stack6 (IntKind.i64.wrap ((stack6.length : Int) - 1))) fun x_52 =>
                .bnd (idx ([x_52]) 0) fun x_53 =>
                .bnd (idx levels10 k12) fun x_54 =>
                .bnd (idx ([x_52]) 0) fun x_55 =>
                .br (decide (x_55.2.1 ≥ 0)) (
                  .bnd (idx ([x_52]) 0) fun x_56 =>
                  .bnd (idx (out11.set (Int.toNat k12) x_3) k12) fun x_57 =>
                  .pure (.next (cs0, paragraph1, stack6, overIsolates7, overEmbeddings8, validIsolates9, levels10.set (Int.toNat k12) x_53.1, (out11.set (Int.toNat k12) x_3).set (Int.toNat k12) x_56.2.1, IntKind.i64.wrap (k12 + 1)))) (
                  .pure (.next (cs0, paragraph1, stack6, overIsolates7, overEmbeddings8, validIsolates9, levels10.set (Int.toNat k12) x_53.1, out11.set (Int.toNat k12) x_3, IntKind.i64.wrap (k12 + 1))))))) (
            .br (x_3 == 18) (
              .bnd (idx levels10 k12) fun x_58 =>
              .br (overIsolates7 == 0) (
                .br (decide (overEmbeddings8 > 0)) (
                  .pure (.next (cs0, paragraph1, stack6, overIsolates7, IntKind.i64.wrap (overEmbeddings8 - 1), validIsolates9, levels10.set (Int.toNat k12) (-1), out11.set (Int.toNat k12) x_3, IntKind.i64.wrap (k12 + 1)))) (
                  .br (overIsolates7 == 0) (
                    .bnd (idx ([x_4]) 0) fun x_59 =>
                    .br (!x_59.2.2) (
                      .br (decide ((stack6.length : Int) ≥ 2)) (
                        .bnd (cut stack6 0 (IntKind.i64.wrap ((stack6.length : Int) - 1))) fun r_60 =>
                        .pure (.next (cs0, paragraph1, r_60, overIsolates7, overEmbeddings8, validIsolates9, levels10.set (Int.toNat k12) (-1), out11.set (Int.toNat k12) x_3, IntKind.i64.wrap (k12 + 1)))) (
                        .pure (.next (cs0, paragraph1, stack6, overIsolates7, overEmbeddings8, validIsolates9, levels10.set (Int.toNat k12) (-1), out11.set (Int.toNat k12) x_3, IntKind.i64.wrap (k12 + 1))))) (
                      .pure (.next (cs0, paragraph1, stack6, overIsolates7, overEmbeddings8, validIsolates9, levels10.set (Int.toNat k12) (-1), out11.set (Int.toNat k12) x_3, IntKind.i64.wrap (k12 + 1))))) (
                    .pure (.next (cs0, paragraph1, stack6, overIsolates7, overEmbeddings8, validIsolates9, levels10.set (Int.toNat k12) (-1), out11.set (Int.toNat k12) x_3, IntKind.i64.wrap (k12 + 1)))))) (
                .br (overIsolates7 == 0) (
                  .bnd (idx ([x_4]) 0) fun x_61 =>
                  .br (!x_61.2.2) (
                    .br (decide ((stack6.length : Int) ≥ 2)) (
                      .bnd (cut stack6 0 (IntKind.i64.wrap ((stack6.length : Int) - 1))) fun r_62 =>
                      .pure (.next (cs0, paragraph1, r_62, overIsolates7, overEmbeddings8, validIsolates9, levels10.set (Int.toNat k12) (-1), out11.set (Int.toNat k12) x_3, IntKind.i64.wrap (k12 + 1)))) (
                      .pure (.next (cs0, paragraph1, stack6, overIsolates7, overEmbeddings8, validIsolates9, levels10.set (Int.toNat k12) (-1), out11.set (Int.toNat k12) x_3, IntKind.i64.wrap (k12 + 1))))) (
                    .pure (.next (cs0, paragraph1, stack6, overIsolates7, overEmbeddings8, validIsolates9, levels10.set (Int.toNat k12) (-1), out11.set (Int.toNat k12) x_3, IntKind.i64.wrap (k12 + 1))))) (
                  .pure (.next (cs0, paragraph1, stack6, overIsolates7, overEmbeddings8, validIsolates9, levels10.set (Int.toNat k12) (-1), out11.set (Int.toNat k12) x_3, IntKind.i64.wrap (k12 + 1)))))) (
              .br (x_3 == 10) (
                .bnd (idx levels10 k12) fun x_63 =>
                .pure (.next (cs0, paragraph1, stack6, overIsolates7, overEmbeddings8, validIsolates9, levels10.set (Int.toNat k12) paragraph1, out11.set (Int.toNat k12) x_3, IntKind.i64.wrap (k12 + 1)))) (
                .br (x_3 == 9) (
                  .bnd (idx levels10 k12) fun x_64 =>
                  .pure (.next (cs0, paragraph1, stack6, overIsolates7, overEmbeddings8, validIsolates9, levels10.set (Int.toNat k12) (-1), out11.set (Int.toNat k12) x_3, IntKind.i64.wrap (k12 + 1)))) (
                  .bnd (idx ([x_4]) 0) fun x_65 =>
                  .bnd (idx levels10 k12) fun x_66 =>
                  .bnd (idx ([x_4]) 0) fun x_67 =>
                  .br (decide (x_67.2.1 ≥ 0)) (
                    .bnd (idx ([x_4]) 0) fun x_68 =>
                    .bnd (idx (out11.set (Int.toNat k12) x_3) k12) fun x_69 =>
                    .pure (.next (cs0, paragraph1, stack6, overIsolates7, overEmbeddings8, validIsolates9, levels10.set (Int.toNat k12) x_65.1, (out11.set (Int.toNat k12) x_3).set (Int.toNat k12) x_68.2.1, IntKind.i64.wrap (k12 + 1)))) (
                    .pure (.next (cs0, paragraph1, stack6, overIsolates7, overEmbeddings8, validIsolates9, levels10.set (Int.toNat k12) x_65.1, out11.set (Int.toNat k12) x_3, IntKind.i64.wrap (k12 + 1))))))))))) (
      .bnd (ref10_beginning_F x_3) fun c_70 =>
      .br c_70 (
        .bnd (idx ([x_4]) 0) fun x_71 =>
        .bnd (idx levels10 k12) fun x_72 =>
        .bnd (idx ([x_4]) 0) fun x_73 =>
        .br (decide (x_73.2.1 ≥ 0)) (
          .bnd (idx ([x_4]) 0) fun x_74 =>
          .bnd (idx (out11.set (Int.toNat k12) x_3) k12) fun x_75 =>
          .bnd (Tr.run (
    .br (x_3 == 20) (
      .pure (cs0, paragraph1, stack6, overIsolates7, overEmbeddings8, validIsolates9, levels10.set (Int.toNat k12) x_71.1, (out11.set (Int.toNat k12) x_3).set (Int.toNat k12) x_74.2.1, k12, x_4, true)) (
      .br (x_3 == 21) (
        .bnd (cut cs0 (IntKind.i64.wrap (k12 + 1)) (cs0.length : Int)) fun r_76 =>
        .bnd (ref10_First_F r_76 true 0) fun c_77 =>
        .pure (cs0, paragraph1, stack6, overIsolates7, overEmbeddings8, validIsolates9, levels10.set (Int.toNat k12) x_71.1, (out11.set (Int.toNat k12) x_3).set (Int.toNat k12) x_74.2.1, k12, x_4, c_77 == 1)) (
        .pure (cs0, paragraph1, stack6, overIsolates7, overEmbeddings8, validIsolates9, levels10.set (Int.toNat k12) x_71.1, (out11.set (Int.toNat k12) x_3).set (Int.toNat k12) x_74.2.1, k12, x_4, false))) : Tr (List Int × Int × (List (Int × Int × Bool)) × Int × Int × Int × List Int × List Int × Int × (Int × Int × Bool) × Bool))) fun j_78 =>
          .bnd (idx ([j_78.2.2.2.2.2.2.2.2.2.1]) 0) fun x_79 =>
          .bnd (ref10_up_F x_79.1 j_78.2.2.2.2.2.2.2.2.2.2) fun c_80 =>
          .br (decide (c_80 ≤ 125)) (
            .br (j_78.2.2.2.1 == 0) (
              .br (j_78.2.2.2.2.1 == 0) (
                .bnd (app 5864062014805 j_78.2.2.1 ([(c_80, ((-1) : Int), true)])) fun r_81 =>
                .pure (.next (j_78.1, j_78.2.1, r_81, j_78.2.2.2.1, j_78.2.2.2.2.1, IntKind.i64.wrap (j_78.2.2.2.2.2.1 + 1), j_78.2.2.2.2.2.2.1, j_78.2.2.2.2.2.2.2.1, IntKind.i64.wrap (j_78.2.2.2.2.2.2.2.2.1 + 1)))) (
                .pure (.next (j_78.1, j_78.2.1, j_78.2.2.1, IntKind.i64.wrap (j_78.2.2.2.1 + 1), j_78.2.2.2.2.1, j_78.2.2.2.2.2.1, j_78.2.2.2.2.2.2.1, j_78.2.2.2.2.2.2.2.1, IntKind.i64.wrap (j_78.2.2.2.2.2.2.2.2.1 + 1))))) (
              .pure (.next (j_78.1, j_78.2.1, j_78.2.2.1, IntKind.i64.wrap (j_78.2.2.2.1 + 1), j_78.2.2.2.2.1, j_78.2.2.2.2.2.1, j_78.2.2.2.2.2.2.1, j_78.2.2.2.2.2.2.2.1, IntKind.i64.wrap (j_78.2.2.2.2.2.2.2.2.1 + 1))))) (
            .pure (.next (j_78.1, j_78.2.1, j_78.2.2.1, IntKind.i64.wrap (j_78.2.2.2.1 + 1), j_78.2.2.2.2.1, j_78.2.2.2.2.2.1, j_78.2.2.2.2.2.2.1, j_78.2.2.2.2.2.2.2.1, IntKind.i64.wrap (j_78.2.2.2.2.2.2.2.2.1 + 1))))) (
          .bnd (Tr.run (
    .br (x_3 == 20) (
      .pure (cs0, paragraph1, stack6, overIsolates7, overEmbeddings8, validIsolates9, levels10.set (Int.toNat k12) x_71.1, out11.set (Int.toNat k12) x_3, k12, x_4, true)) (
      .br (x_3 == 21) (
        .bnd (cut cs0 (IntKind.i64.wrap (k12 + 1)) (cs0.length : Int)) fun r_82 =>
        .bnd (ref10_First_F r_82 true 0) fun c_83 =>
        .pure (cs0, paragraph1, stack6, overIsolates7, overEmbeddings8, validIsolates9, levels10.set (Int.toNat k12) x_71.1, out11.set (Int.toNat k12) x_3, k12, x_4, c_83 == 1)) (
        .pure (cs0, paragraph1, stack6, overIsolates7, overEmbeddings8, validIsolates9, levels10.set (Int.toNat k12) x_71.1, out11.set (Int.toNat k12) x_3, k12, x_4, false))) : Tr (List Int × Int × (List (Int × Int × Bool)) × Int × Int × Int × List Int × List Int × Int × (Int × Int × Bool) × Bool))) fun j_84 =>
          .bnd (idx ([j_84.2.2.2.2.2.2.2.2.2.1]) 0) fun x_85 =>
          .bnd (ref10_up_F x_85.1 j_84.2.2.2.2.2.2.2.2.2.2) fun c_86 =>
          .br (decide (c_86 ≤ 125)) (
            .br (j_84.2.2.2.1 == 0) (
              .br (j_84.2.2.2.2.1 == 0) (
                .bnd (app 5864062014805 j_84.2.2.1 ([(c_86, ((-1) : Int), true)])) fun r_87 =>
                .pure (.next (j_84.1, j_84.2.1, r_87, j_84.2.2.2.1, j_84.2.2.2.2.1, IntKind.i64.wrap (j_84.2.2.2.2.2.1 + 1), j_84.2.2.2.2.2.2.1, j_84.2.2.2.2.2.2.2.1, IntKind.i64.wrap (j_84.2.2.2.2.2.2.2.2.1 + 1)))) (
                .pure (.next (j_84.1, j_84.2.1, j_84.2.2.1, IntKind.i64.wrap (j_84.2.2.2.1 + 1), j_84.2.2.2.2.1, j_84.2.2.2.2.2.1, j_84.2.2.2.2.2.2.1, j_84.2.2.2.2.2.2.2.1, IntKind.i64.wrap (j_84.2.2.2.2.2.2.2.2.1 + 1))))) (
              .pure (.next (j_84.1, j_84.2.1, j_84.2.2.1, IntKind.i64.wrap (j_84.2.2.2.1 + 1), j_84.2.2.2.2.1, j_84.2.2.2.2.2.1, j_84.2.2.2.2.2.2.1, j_84.2.2.2.2.2.2.2.1, IntKind.i64.wrap (j_84.2.2.2.2.2.2.2.2.1 + 1))))) (
            .pure (.next (j_84.1, j_84.2.1, j_84.2.2.1, IntKind.i64.wrap (j_84.2.2.2.1 + 1), j_84.2.2.2.2.1, j_84.2.2.2.2.2.1, j_84.2.2.2.2.2.2.1, j_84.2.2.2.2.2.2.2.1, IntKind.i64.wrap (j_84.2.2.2.2.2.2.2.2.1 + 1)))))) (
        .br (x_3 == 22) (
          .br (decide (overIsolates7 > 0)) (
            .bnd (idx stack6 (IntKind.i64.wrap ((stack6.length : Int) - 1))) fun x_88 =>
            .bnd (idx ([x_88]) 0) fun x_89 =>
            .bnd (idx levels10 k12) fun x_90 =>
            .bnd (idx ([x_88]) 0) fun x_91 =>
            .br (decide (x_91.2.1 ≥ 0)) (
              .bnd (idx ([x_88]) 0) fun x_92 =>
              .bnd (idx (out11.set (Int.toNat k12) x_3) k12) fun x_93 =>
              .pure (.next (cs0, paragraph1, stack6, IntKind.i64.wrap (overIsolates7 - 1), overEmbeddings8, validIsolates9, levels10.set (Int.toNat k12) x_89.1, (out11.set (Int.toNat k12) x_3).set (Int.toNat k12) x_92.2.1, IntKind.i64.wrap (k12 + 1)))) (
              .pure (.next (cs0, paragraph1, stack6, IntKind.i64.wrap (overIsolates7 - 1), overEmbeddings8, validIsolates9, levels10.set (Int.toNat k12) x_89.1, out11.set (Int.toNat k12) x_3, IntKind.i64.wrap (k12 + 1))))) (
            .br (decide (validIsolates9 > 0)) (
              .bnd (loopW (fun s => (ref10_Resolve_L43 s.1 s.2.1 s.2.2.1 s.2.2.2.1 s.2.2.2.2.1 s.2.2.2.2.2.1 s.2.2.2.2.2.2.1 s.2.2.2.2.2.2.2.1 s.2.2.2.2.2.2.2.2.1 s.2.2.2.2.2.2.2.2.2).run) (cs0, paragraph1, stack6, overIsolates7, 0, validIsolates9, levels10, out11.set (Int.toNat k12) x_3, k12, x_4)) fun l_94 =>
              .bnd (cut l_94.2.2.1 0 (IntKind.i64.wrap ((l_94.2.2.1.length : Int) - 1))) fun r_95 =>
              .bnd (idx r_95 (IntKind.i64.wrap ((r_95.length : Int) - 1))) fun x_96 =>
              .bnd (idx ([x_96]) 0) fun x_97 =>
              .bnd (idx l_94.2.2.2.2.2.2.1 l_94.2.2.2.2.2.2.2.2.1) fun x_98 =>
              .bnd (idx ([x_96]) 0) fun x_99 =>
              .br (decide (x_99.2.1 ≥ 0)) (
                .bnd (idx ([x_96]) 0) fun x_100 =>
                .bnd (idx l_94.2.2.2.2.2.2.2.1 l_94.2.2.2.2.2.2.2.2.1) fun x_101 =>
                .pure (.next (l_94.1, l_94.2.1, r_95, l_94.2.2.2.1, l_94.2.2.2.2.1, IntKind.i64.wrap (l_94.2.2.2.2.2.1 - 1), l_94.2.2.2.2.2.2.1.set (Int.toNat l_94.2.2.2.2.2.2.2.2.1) x_97.1, l_94.2.2.2.2.2.2.2.1.set (Int.toNat l_94.2.2.2.2.2.2.2.2.1) x_100.2.1, IntKind.i64.wrap (l_94.2.2.2.2.2.2.2.2.1 + 1)))) (
                .pure (.next (l_94.1, l_94.2.1, r_95, l_94.2.2.2.1, l_94.2.2.2.2.1, IntKind.i64.wrap (l_94.2.2.2.2.2.1 - 1), l_94.2.2.2.2.2.2.1.set (Int.toNat l_94.2.2.2.2.2.2.2.2.1) x_97.1, l_94.2.2.2.2.2.2.2.1, IntKind.i64.wrap (l_94.2.2.2.2.2.2.2.2.1 + 1))))) (
              .bnd (idx stack6 (IntKind.i64.wrap ((stack6.length : Int) - 1))) fun x_102 =>
              .bnd (idx ([x_102]) 0) fun x_103 =>
              .bnd (idx levels10 k12) fun x_104 =>
              .bnd (idx ([x_102]) 0) fun x_105 =>
              .br (decide (x_105.2.1 ≥ 0)) (
                .bnd (idx ([x_102]) 0) fun x_106 =>
                .bnd (idx (out11.set (Int.toNat k12) x_3) k12) fun x_107 =>
                .pure (.next (cs0, paragraph1, stack6, overIsolates7, overEmbeddings8, validIsolates9, levels10.set (Int.toNat k12) x_103.1, (out11.set (Int.toNat k12) x_3).set (Int.toNat k12) x_106.2.1, IntKind.i64.wrap (k12 + 1)))) (
                .pure (.next (cs0, paragraph1, stack6, overIsolates7, overEmbeddings8, validIsolates9, levels10.set (Int.toNat k12) x_103.1, out11.set (Int.toNat k12) x_3, IntKind.i64.wrap (k12 + 1))))))) (
          .br (x_3 == 18) (
            .bnd (idx levels10 k12) fun x_108 =>
            .br (overIsolates7 == 0) (
              .br (decide (overEmbeddings8 > 0)) (
                .pure (.next (cs0, paragraph1, stack6, overIsolates7, IntKind.i64.wrap (overEmbeddings8 - 1), validIsolates9, levels10.set (Int.toNat k12) (-1), out11.set (Int.toNat k12) x_3, IntKind.i64.wrap (k12 + 1)))) (
                .br (overIsolates7 == 0) (
                  .bnd (idx ([x_4]) 0) fun x_109 =>
                  .br (!x_109.2.2) (
                    .br (decide ((stack6.length : Int) ≥ 2)) (
                      .bnd (cut stack6 0 (IntKind.i64.wrap ((stack6.length : Int) - 1))) fun r_110 =>
                      .pure (.next (cs0, paragraph1, r_110, overIsolates7, overEmbeddings8, validIsolates9, levels10.set (Int.toNat k12) (-1), out11.set (Int.toNat k12) x_3, IntKind.i64.wrap (k12 + 1)))) (
                      .pure (.next (cs0, paragraph1, stack6, overIsolates7, overEmbeddings8, validIsolates9, levels10.set (Int.toNat k12) (-1), out11.set (Int.toNat k12) x_3, IntKind.i64.wrap (k12 + 1))))) (
                    .pure (.next (cs0, paragraph1, stack6, overIsolates7, overEmbeddings8, validIsolates9, levels10.set (Int.toNat k12) (-1), out11.set (Int.toNat k12) x_3, IntKind.i64.wrap (k12 + 1))))) (
                  .pure (.next (cs0, paragraph1, stack6, overIsolates7, overEmbeddings8, validIsolates9, levels10.set (Int.toNat k12) (-1), out11.set (Int.toNat k12) x_3, IntKind.i64.wrap (k12 + 1)))))) (
              .br (overIsolates7 == 0) (
                .bnd (idx ([x_4]) 0) fun x_111 =>
                .br (!x_111.2.2) (
                  .br (decide ((stack6.length : Int) ≥ 2)) (
                    .bnd (cut stack6 0 (IntKind.i64.wrap ((stack6.length : Int) - 1))) fun r_112 =>
                    .pure (.next (cs0, paragraph1, r_112, overIsolates7, overEmbeddings8, validIsolates9, levels10.set (Int.toNat k12) (-1), out11.set (Int.toNat k12) x_3, IntKind.i64.wrap (k12 + 1)))) (
                    .pure (.next (cs0, paragraph1, stack6, overIsolates7, overEmbeddings8, validIsolates9, levels10.set (Int.toNat k12) (-1), out11.set (Int.toNat k12) x_3, IntKind.i64.wrap (k12 + 1))))) (
                  .pure (.next (cs0, paragraph1, stack6, overIsolates7, overEmbeddings8, validIsolates9, levels10.set (Int.toNat k12) (-1), out11.set (Int.toNat k12) x_3, IntKind.i64.wrap (k12 + 1))))) (
                .pure (.next (cs0, paragraph1, stack6, overIsolates7, overEmbeddings8, validIsolates9, levels10.set (Int.toNat k12) (-1), out11.set (Int.toNat k12) x_3, IntKind.i64.wrap (k12 + 1)))))) (
            .br (x_3 == 10) (
              .bnd (idx levels10 k12) fun x_113 =>
              .pure (.next (cs0, paragraph1, stack6, overIsolates7, overEmbeddings8, validIsolates9, levels10.set (Int.toNat k12) paragraph1, out11.set (Int.toNat k12) x_3, IntKind.i64.wrap (k12 + 1)))) (
              .br (x_3 == 9) (
                .bnd (idx levels10 k12) fun x_114 =>
                .pure (.next (cs0, paragraph1, stack6, overIsolates7, overEmbeddings8, validIsolates9, levels10.set (Int.toNat k12) (-1), out11.set (Int.toNat k12) x_3, IntKind.i64.wrap (k12 + 1)))) (
                .bnd (idx ([x_4]) 0) fun x_115 =>
                .bnd (idx levels10 k12) fun x_116 =>
                .bnd (idx ([x_4]) 0) fun x_117 =>
                .br (decide (x_117.2.1 ≥ 0)) (
                  .bnd (idx ([x_4]) 0) fun x_118 =>
                  .bnd (idx (out11.set (Int.toNat k12) x_3) k12) fun x_119 =>
                  .pure (.next (cs0, paragraph1, stack6, overIsolates7, overEmbeddings8, validIsolates9, levels10.set (Int.toNat k12) x_115.1, (out11.set (Int.toNat k12) x_3).set (Int.toNat k12) x_118.2.1, IntKind.i64.wrap (k12 + 1)))) (
                  .pure (.next (cs0, paragraph1, stack6, overIsolates7, overEmbeddings8, validIsolates9, levels10.set (Int.toNat k12) x_115.1, out11.set (Int.toNat k12) x_3, IntKind.i64.wrap (k12 + 1))))))))))) (
    .pure (.done (levels10, out11)))
noncomputable def ref10_Resolve_T (cs0 : List Int) (paragraph1 : Int) : Tr (List Int × List Int) :=
  .bnd (mk 17592186044416 0 (cs0.length : Int)) fun r_1 =>
  .bnd (mk 17592186044416 0 (cs0.length : Int)) fun r_2 =>
  .bnd (loopW (fun s => (ref10_Resolve_L8 s.1 s.2.1 s.2.2.1 s.2.2.2.1 s.2.2.2.2.1 s.2.2.2.2.2.1 s.2.2.2.2.2.2.1 s.2.2.2.2.2.2.2.1 s.2.2.2.2.2.2.2.2).run) (cs0, paragraph1, [(paragraph1, ((-1) : Int), false)], 0, 0, 0, r_1, r_2, 0)) fun l_120 =>
  .pure (l_120.1, l_120.2)
noncomputable def ref10_Resolve_F (cs0 : List Int) (paragraph1 : Int) : Option (List Int × List Int) := (ref10_Resolve_T cs0 paragraph1).run
def ref10_Resolve_L : List (Nat × LoopAnn) := [(43, { head := [.sv 0 false (.sl (.int .i64)), .sv 1 false (.int .i64), .srow 6 1000006 65 true (.st (.pair (.int .i64) (.pair (.int .i64) .bool))), .sv 7 true (.int .i64), .sv 8 true (.int .i64), .sv 9 true (.int .i64), .srow 10 1000010 3 true (.int .i64), .srow 11 1000011 3 true (.int .i64), .sv 12 true (.int .i64), .sbox 14 1000014 65 true (.st (.pair (.int .i64) (.pair (.int .i64) .bool)))], xid := 3, out := [.sv 0 false (.sl (.int .i64)), .sv 1 false (.int .i64), .srow 6 1000006 65 true (.st (.pair (.int .i64) (.pair (.int .i64) .bool))), .sv 7 true (.int .i64), .sv 8 true (.int .i64), .sv 9 true (.int .i64), .srow 10 1000010 3 true (.int .i64), .srow 11 1000011 3 true (.int .i64), .sv 12 true (.int .i64), .sbox 14 1000014 65 true (.st (.pair (.int .i64) (.pair (.int .i64) .bool)))], hasRet := false, res := [] }), (8, { head := [.sv 0 false (.sl (.int .i64)), .sv 1 false (.int .i64), .srow 6 1000006 65 true (.st (.pair (.int .i64) (.pair (.int .i64) .bool))), .sv 7 true (.int .i64), .sv 8 true (.int .i64), .sv 9 true (.int .i64), .srow 10 1000010 3 true (.int .i64), .srow 11 1000011 3 true (.int .i64), .sv 12 true (.int .i64)], xid := 0, out := [.srow 10 1000010 3 true (.int .i64), .srow 11 1000011 3 true (.int .i64)], hasRet := false, res := [] })]
noncomputable def ref10_Resolve_C : List (Nat × Callee) := [(40, .plain ref10_up_fun), (41, .plain ref10_beginning_fun), (42, .plain ref10_First_fun)]
noncomputable def ref10_Resolve_fun : Fun := ⟨[.sl (.int .i64), .int .i64], [.row 3 (.int .i64), .row 3 (.int .i64)], fun x => ref10_Resolve_F x.1 x.2.1⟩
theorem ref10_Resolve_ev (x : Tys.I [.sl (.int .i64), .int .i64]) : evFun G0 (fun f => olook f ref10_Resolve_C) ⟨[178, 183, 235], [], [], [], [(32, [(14, [.sv 0 false (.sl (.int .i64)), .sv 1 false (.int .i64), .srow 6 1000006 65 true (.st (.pair (.int .i64) (.pair (.int .i64) .bool))), .sv 7 true (.int .i64), .sv 8 true (.int .i64), .sv 9 true (.int .i64), .srow 10 1000010 3 true (.int .i64), .srow 11 1000011 3 true (.int .i64), .sv 12 true (.int .i64), .sbox 14 1000014 65 true (.st (.pair (.int .i64) (.pair (.int .i64) .bool))), .sv 133 true .bool])])], []⟩ (fun i => olook i ref10_Resolve_L) Try.f22 [.sl (.int .i64), .int .i64] [.row 3 (.int .i64), .row 3 (.int .i64)] x = ref10_Resolve_T x.1 x.2.1 := by kernel_rfl
theorem ref10_Resolve_ok : FunOk Try.prog 22 ref10_Resolve_fun := evFun_ok mixed ctx0 (cons_calls (fb := .plain ref10_up_fun) ref10_up_ok (fun h => by cases h) (cons_calls (fb := .plain ref10_beginning_fun) ref10_beginning_ok (fun h => by cases h) (cons_calls (fb := .plain ref10_First_fun) ref10_First_ok (fun h => by cases h) (no_calls)))) Try.func22 (by kernel_rfl) _ (fun x => congrArg Tr.run (ref10_Resolve_ev x)) (by kernel_rfl) (by kernel_rfl)
/-! ### boustrophedon/boustrophedonlaw10.Ints -/
noncomputable def law10_Ints_L3 (out3 : List Int) (t6 : List Int) (t7 : Int) (t8 : Int) : Tr (Lap (List Int × List Int × Int × Int) (List Int)) :=
  .br (decide (t8 < t7)) (
    .bnd (idx t6 t8) fun x_1 =>
    .bnd (app 17592186044416 out3 ([IntKind.i64.wrap x_1])) fun r_2 =>
    .pure (.next (r_2, t6, t7, IntKind.i64.wrap (t8 + 1)))) (
    .pure (.done out3))
noncomputable def law10_Ints_T (cs0 : List Int) : Tr (List Int) :=
  .bnd (loopW (fun s => (law10_Ints_L3 s.1 s.2.1 s.2.2.1 s.2.2.2).run) ([], cs0, (cs0.length : Int), 0)) fun l_3 =>
  .pure l_3
noncomputable def law10_Ints_F (cs0 : List Int) : Option (List Int) := (law10_Ints_T cs0).run
def law10_Ints_L : List (Nat × LoopAnn) := [(3, { head := [.srow 3 1000003 3 true (.int .i64), .sv 6 false (.sl (.int .u8)), .sv 7 true (.int .i64), .sv 8 true (.int .i64)], xid := 0, out := [.srow 3 1000003 3 true (.int .i64)], hasRet := false, res := [] })]
noncomputable def law10_Ints_C : List (Nat × Callee) := []
noncomputable def law10_Ints_fun : Fun := ⟨[.sl (.int .u8)], [.row 3 (.int .i64)], fun x => law10_Ints_F x.1⟩
theorem law10_Ints_ev (x : Tys.I [.sl (.int .u8)]) : evFun G0 (fun f => olook f law10_Ints_C) ⟨[], [], [], [], [], []⟩ (fun i => olook i law10_Ints_L) Try.f23 [.sl (.int .u8)] [.row 3 (.int .i64)] x = law10_Ints_T x.1 := by kernel_rfl
theorem law10_Ints_ok : FunOk Try.prog 23 law10_Ints_fun := evFun_ok mixed ctx0 (no_calls) Try.func23 (by kernel_rfl) _ (fun x => congrArg Tr.run (law10_Ints_ev x)) (by kernel_rfl) (by kernel_rfl)
/-! ### boustrophedon/boustrophedonlaw11.like -/
noncomputable def law11_like_L6 (l5 : List Int) (c6 : List Int) (m7 : List Int) (d8 : List Int) (k9 : Int) : Tr (Lap (List Int × List Int × List Int × List Int × Int) (Sum Unit Bool)) :=
  .br (decide (k9 < (l5.length : Int))) (
    .bnd (idx l5 k9) fun x_4 =>
    .bnd (idx m7 k9) fun x_5 =>
    .br (x_4 != x_5) (
      .pure (.done (.inr false))) (
      .bnd (idx c6 k9) fun x_6 =>
      .bnd (idx d8 k9) fun x_7 =>
      .br ((IntKind.i64.wrap x_6) != x_7) (
        .pure (.done (.inr false))) (
        .pure (.next (l5, c6, m7, d8, IntKind.i64.wrap (k9 + 1)))))) (
    .pure (.done (.inl ())))
noncomputable def law11_like_T (cs0 : List Int) (level1 : Int) : Tr Bool :=
  .bnd (explicit_Resolve_F cs0 level1) fun c_1 =>
  .bnd (law10_Ints_F cs0) fun c_2 =>
  .bnd (ref10_Resolve_F c_2 level1) fun c_3 =>
  .br ((c_1.1.length : Int) != (c_3.1.length : Int)) (
    .pure false) (
    .br ((c_1.2.length : Int) != (c_3.2.length : Int)) (
      .pure false) (
      .alt (loopW (fun s => (law11_like_L6 s.1 s.2.1 s.2.2.1 s.2.2.2.1 s.2.2.2.2).run) (c_1.1, c_1.2, c_3.1, c_3.2, 0)) (fun l_8 =>
        .pure true) (fun l_9 =>
        .pure l_9)))
noncomputable def law11_like_F (cs0 : List Int) (level1 : Int) : Option Bool := (law11_like_T cs0 level1).run
def law11_like_L : List (Nat × LoopAnn) := [(6, { head := [.srow 5 1000005 3 true (.int .i64), .srow 6 1000006 33 true (.int .u8), .srow 7 1000007 3 true (.int .i64), .srow 8 1000008 3 true (.int .i64), .sv 9 true (.int .i64)], xid := 0, out := [], hasRet := true, res := [.sv 4 true .bool] })]
noncomputable def law11_like_C : List (Nat × Callee) := [(15, .plain explicit_Resolve_fun), (23, .plain law10_Ints_fun), (22, .plain ref10_Resolve_fun)]
noncomputable def law11_like_fun : Fun := ⟨[.sl (.int .u8), .int .i64], [.v .bool], fun x => law11_like_F x.1 x.2.1⟩
theorem law11_like_ev (x : Tys.I [.sl (.int .u8), .int .i64]) : evFun G0 (fun f => olook f law11_like_C) ⟨[], [], [], [], [], []⟩ (fun i => olook i law11_like_L) Try.f13 [.sl (.int .u8), .int .i64] [.v .bool] x = law11_like_T x.1 x.2.1 := by kernel_rfl
theorem law11_like_ok : FunOk Try.prog 13 law11_like_fun := evFun_ok mixed ctx0 (cons_calls (fb := .plain explicit_Resolve_fun) explicit_Resolve_ok (fun h => by cases h) (cons_calls (fb := .plain law10_Ints_fun) law10_Ints_ok (fun h => by cases h) (cons_calls (fb := .plain ref10_Resolve_fun) ref10_Resolve_ok (fun h => by cases h) (no_calls)))) Try.func13 (by kernel_rfl) _ (fun x => congrArg Tr.run (law11_like_ev x)) (by kernel_rfl) (by kernel_rfl)
/-! ### boustrophedon/boustrophedonlaw08.Classes -/
noncomputable def law08_Classes_L3 (ns0 : List Int) (out3 : List Int) (k4 : Int) : Tr (Lap (List Int × List Int × Int) (List Int)) :=
  .br (decide (k4 < (ns0.length : Int))) (
    .bnd (idx ns0 k4) fun x_1 =>
    .bnd (app 140737488355328 out3 ([x_1.tmod 23])) fun r_2 =>
    .pure (.next (ns0, r_2, IntKind.i64.wrap (k4 + 1)))) (
    .pure (.done out3))
noncomputable def law08_Classes_T (ns0 : List Int) : Tr (List Int) :=
  .bnd (loopW (fun s => (law08_Classes_L3 s.1 s.2.1 s.2.2).run) (ns0, [], 0)) fun l_3 =>
  .pure l_3
noncomputable def law08_Classes_F (ns0 : List Int) : Option (List Int) := (law08_Classes_T ns0).run
def law08_Classes_L : List (Nat × LoopAnn) := [(3, { head := [.sv 0 false (.sl (.int .u8)), .srow 3 1000003 33 true (.int .u8), .sv 4 true (.int .i64)], xid := 0, out := [.srow 3 1000003 33 true (.int .u8)], hasRet := false, res := [] })]
noncomputable def law08_Classes_C : List (Nat × Callee) := []
noncomputable def law08_Classes_fun : Fun := ⟨[.sl (.int .u8)], [.row 33 (.int .u8)], fun x => law08_Classes_F x.1⟩
theorem law08_Classes_ev (x : Tys.I [.sl (.int .u8)]) : evFun G0 (fun f => olook f law08_Classes_C) ⟨[], [], [], [], [], []⟩ (fun i => olook i law08_Classes_L) Try.f14 [.sl (.int .u8)] [.row 33 (.int .u8)] x = law08_Classes_T x.1 := by kernel_rfl
theorem law08_Classes_ok : FunOk Try.prog 14 law08_Classes_fun := evFun_ok mixed ctx0 (no_calls) Try.func14 (by kernel_rfl) _ (fun x => congrArg Tr.run (law08_Classes_ev x)) (by kernel_rfl) (by kernel_rfl)
/-! ### boustrophedon/boustrophedonlaw11.ExplicitResolves -/
noncomputable def law11_ExplicitResolves_T (ns0 : List Int) (level1 : Int) : Tr Bool :=
  .bnd law11_awake_F fun c_1 =>
  .br (!c_1) (
    .pure false) (
    .bnd (law08_Classes_F ns0) fun c_2 =>
    .bnd (law11_like_F c_2 (IntKind.i64.wrap (level1.tmod 2))) fun c_3 =>
    .pure c_3)
noncomputable def law11_ExplicitResolves_F (ns0 : List Int) (level1 : Int) : Option Bool := (law11_ExplicitResolves_T ns0 level1).run
def law11_ExplicitResolves_L : List (Nat × LoopAnn) := []
noncomputable def law11_ExplicitResolves_C : List (Nat × Callee) := [(12, .plain law11_awake_fun), (14, .plain law08_Classes_fun), (13, .plain law11_like_fun)]
noncomputable def law11_ExplicitResolves_fun : Fun := ⟨[.sl (.int .u8), .int .u8], [.v .bool], fun x => law11_ExplicitResolves_F x.1 x.2.1⟩
theorem law11_ExplicitResolves_ev (x : Tys.I [.sl (.int .u8), .int .u8]) : evFun G0 (fun f => olook f law11_ExplicitResolves_C) ⟨[], [], [], [], [], []⟩ (fun i => olook i law11_ExplicitResolves_L) Try.f3 [.sl (.int .u8), .int .u8] [.v .bool] x = law11_ExplicitResolves_T x.1 x.2.1 := by kernel_rfl
theorem law11_ExplicitResolves_ok : FunOk Try.prog 3 law11_ExplicitResolves_fun := evFun_ok mixed ctx0 (cons_calls (fb := .plain law11_awake_fun) law11_awake_ok (fun h => by cases h) (cons_calls (fb := .plain law08_Classes_fun) law08_Classes_ok (fun h => by cases h) (cons_calls (fb := .plain law11_like_fun) law11_like_ok (fun h => by cases h) (no_calls)))) Try.func3 (by kernel_rfl) _ (fun x => congrArg Tr.run (law11_ExplicitResolves_ev x)) (by kernel_rfl) (by kernel_rfl)
/-! ### boustrophedon/boustrophedonlaw11.ExplicitDeep -/
noncomputable def law11_ExplicitDeep_L8 (times1 : Int) (level2 : Int) (all7 : List Int) (few8 : List Int) (k9 : Int) : Tr (Lap (Int × Int × List Int × List Int × Int) (Int × List Int)) :=
  .br (decide (k9 < (IntKind.i64.wrap times1))) (
    .bnd (app 140737488355328 all7 few8) fun r_4 =>
    .pure (.next (times1, level2, r_4, few8, IntKind.i64.wrap (k9 + 1)))) (
    .pure (.done (level2, all7)))
noncomputable def law11_ExplicitDeep_T (ns0 : List Int) (times1 : Int) (level2 : Int) : Tr Bool :=
  .bnd law11_awake_F fun c_1 =>
  .br (!c_1) (
    .pure false) (
    .bnd (law08_Classes_F ns0) fun c_2 =>
    .br (decide ((c_2.length : Int) > 12)) (
      .bnd (cut c_2 0 12) fun r_3 =>
      .bnd (loopW (fun s => (law11_ExplicitDeep_L8 s.1 s.2.1 s.2.2.1 s.2.2.2.1 s.2.2.2.2).run) (times1, level2, [], r_3, 0)) fun l_5 =>
      .bnd (law11_like_F l_5.2 (IntKind.i64.wrap (l_5.1.tmod 2))) fun c_6 =>
      .pure c_6) (
      .bnd (loopW (fun s => (law11_ExplicitDeep_L8 s.1 s.2.1 s.2.2.1 s.2.2.2.1 s.2.2.2.2).run) (times1, level2, [], c_2, 0)) fun l_7 =>
      .bnd (law11_like_F l_7.2 (IntKind.i64.wrap (l_7.1.tmod 2))) fun c_8 =>
      .pure c_8))
noncomputable def law11_ExplicitDeep_F (ns0 : List Int) (times1 : Int) (level2 : Int) : Option Bool := (law11_ExplicitDeep_T ns0 times1 level2).run
def law11_ExplicitDeep_L : List (Nat × LoopAnn) := [(8, { head := [.sv 1 false (.int .u8), .sv 2 false (.int .u8), .srow 7 1000007 33 true (.int .u8), .srow 8 1000008 33 true (.int .u8), .sv 9 true (.int .i64)], xid := 0, out := [.sv 2 false (.int .u8), .srow 7 1000007 33 true (.int .u8)], hasRet := false, res := [] })]
noncomputable def law11_ExplicitDeep_C : List (Nat × Callee) := [(12, .plain law11_awake_fun), (14, .plain law08_Classes_fun), (13, .plain law11_like_fun)]
noncomputable def law11_ExplicitDeep_fun : Fun := ⟨[.sl (.int .u8), .int .u8, .int .u8], [.v .bool], fun x => law11_ExplicitDeep_F x.1 x.2.1 x.2.2.1⟩
theorem law11_ExplicitDeep_ev (x : Tys.I [.sl (.int .u8), .int .u8, .int .u8]) : evFun G0 (fun f => olook f law11_ExplicitDeep_C) ⟨[18], [], [], [], [], []⟩ (fun i => olook i law11_ExplicitDeep_L) Try.f4 [.sl (.int .u8), .int .u8, .int .u8] [.v .bool] x = law11_ExplicitDeep_T x.1 x.2.1 x.2.2.1 := by kernel_rfl
theorem law11_ExplicitDeep_ok : FunOk Try.prog 4 law11_ExplicitDeep_fun := evFun_ok mixed ctx0 (cons_calls (fb := .plain law11_awake_fun) law11_awake_ok (fun h => by cases h) (cons_calls (fb := .plain law08_Classes_fun) law08_Classes_ok (fun h => by cases h) (cons_calls (fb := .plain law11_like_fun) law11_like_ok (fun h => by cases h) (no_calls)))) Try.func4 (by kernel_rfl) _ (fun x => congrArg Tr.run (law11_ExplicitDeep_ev x)) (by kernel_rfl) (by kernel_rfl)
/-! ### boustrophedon/bidic.Taken -/
noncomputable def bidic_Taken_T (c0 : Int) : Tr Bool :=
  .bnd (bidic_Embedding_F c0) fun c_1 =>
  .br c_1 (
    .pure true) (
    .br (c0 == 18) (
      .pure true) (
      .pure (c0 == 9)))
noncomputable def bidic_Taken_F (c0 : Int) : Option Bool := (bidic_Taken_T c0).run
def bidic_Taken_L : List (Nat × LoopAnn) := []
noncomputable def bidic_Taken_C : List (Nat × Callee) := [(25, .plain bidic_Embedding_fun)]
noncomputable def bidic_Taken_fun : Fun := ⟨[.int .u8], [.v .bool], fun x => bidic_Taken_F x.1⟩
theorem bidic_Taken_ev (x : Tys.I [.int .u8]) : evFun G0 (fun f => olook f bidic_Taken_C) ⟨[], [], [], [], [], []⟩ (fun i => olook i bidic_Taken_L) Try.f16 [.int .u8] [.v .bool] x = bidic_Taken_T x.1 := by kernel_rfl
theorem bidic_Taken_ok : FunOk Try.prog 16 bidic_Taken_fun := evFun_ok mixed ctx0 (cons_calls (fb := .plain bidic_Embedding_fun) bidic_Embedding_ok (fun h => by cases h) (no_calls)) Try.func16 (by kernel_rfl) _ (fun x => congrArg Tr.run (bidic_Taken_ev x)) (by kernel_rfl) (by kernel_rfl)
/-! ### boustrophedon/boustrophedonlaw11.ExplicitBounds -/
noncomputable def law11_ExplicitBounds_L9 (cs5 : List Int) (base6 : Int) (l7 : List Int) (c8 : List Int) (k9 : Int) : Tr (Lap (List Int × Int × List Int × List Int × Int) (Sum Unit Bool)) :=
  .br (decide (k9 < (cs5.length : Int))) (
    .bnd (idx l7 k9) fun x_4 =>
    .bnd (idx cs5 k9) fun x_5 =>
    .bnd (bidic_Taken_F x_5) fun c_6 =>
    .br (!((x_4 == (-1)) == c_6)) (
      .pure (.done (.inr false))) (
      .bnd (idx l7 k9) fun x_7 =>
      .br (x_7 != (-1)) (
        .bnd (idx l7 k9) fun x_8 =>
        .br (decide (x_8 < base6)) (
          .pure (.done (.inr false))) (
          .bnd (idx l7 k9) fun x_9 =>
          .br (decide (x_9 > 125)) (
            .pure (.done (.inr false))) (
            .bnd (idx cs5 k9) fun x_10 =>
            .br (x_10 == 10) (
              .bnd (idx l7 k9) fun x_11 =>
              .br (x_11 != base6) (
                .pure (.done (.inr false))) (
                .bnd (idx c8 k9) fun x_12 =>
                .br (x_12 != 10) (
                  .pure (.done (.inr false))) (
                  .bnd (idx c8 k9) fun x_13 =>
                  .bnd (idx cs5 k9) fun x_14 =>
                  .br (x_13 != x_14) (
                    .bnd (idx c8 k9) fun x_15 =>
                    .br (x_15 != 0) (
                      .bnd (idx c8 k9) fun x_16 =>
                      .br (x_16 != 1) (
                        .pure (.done (.inr false))) (
                        .pure (.next (cs5, base6, l7, c8, IntKind.i64.wrap (k9 + 1))))) (
                      .pure (.next (cs5, base6, l7, c8, IntKind.i64.wrap (k9 + 1))))) (
                    .pure (.next (cs5, base6, l7, c8, IntKind.i64.wrap (k9 + 1))))))) (
              .bnd (idx c8 k9) fun x_17 =>
              .bnd (idx cs5 k9) fun x_18 =>
              .br (x_17 != x_18) (
                .bnd (idx c8 k9) fun x_19 =>
                .br (x_19 != 0) (
                  .bnd (idx c8 k9) fun x_20 =>
                  .br (x_20 != 1) (
                    .pure (.done (.inr false))) (
                    .pure (.next (cs5, base6, l7, c8, IntKind.i64.wrap (k9 + 1))))) (
                  .pure (.next (cs5, base6, l7, c8, IntKind.i64.wrap (k9 + 1))))) (
                .pure (.next (cs5, base6, l7, c8, IntKind.i64.wrap (k9 + 1)))))))) (
        .bnd (idx cs5 k9) fun x_21 =>
        .br (x_21 == 10) (
          .bnd (idx l7 k9) fun x_22 =>
          .br (x_22 != base6) (
            .pure (.done (.inr false))) (
            .bnd (idx c8 k9) fun x_23 =>
            .br (x_23 != 10) (
              .pure (.done (.inr false))) (
              .bnd (idx c8 k9) fun x_24 =>
              .bnd (idx cs5 k9) fun x_25 =>
              .br (x_24 != x_25) (
                .bnd (idx c8 k9) fun x_26 =>
                .br (x_26 != 0) (
                  .bnd (idx c8 k9) fun x_27 =>
                  .br (x_27 != 1) (
                    .pure (.done (.inr false))) (
                    .pure (.next (cs5, base6, l7, c8, IntKind.i64.wrap (k9 + 1))))) (
                  .pure (.next (cs5, base6, l7, c8, IntKind.i64.wrap (k9 + 1))))) (
                .pure (.next (cs5, base6, l7, c8, IntKind.i64.wrap (k9 + 1))))))) (
          .bnd (idx c8 k9) fun x_28 =>
          .bnd (idx cs5 k9) fun x_29 =>
          .br (x_28 != x_29) (
            .bnd (idx c8 k9) fun x_30 =>
            .br (x_30 != 0) (
              .bnd (idx c8 k9) fun x_31 =>
              .br (x_31 != 1) (
                .pure (.done (.inr false))) (
                .pure (.next (cs5, base6, l7, c8, IntKind.i64.wrap (k9 + 1))))) (
              .pure (.next (cs5, base6, l7, c8, IntKind.i64.wrap (k9 + 1))))) (
            .pure (.next (cs5, base6, l7, c8, IntKind.i64.wrap (k9 + 1)))))))) (
    .pure (.done (.inl ())))
noncomputable def law11_ExplicitBounds_T (ns0 : List Int) (level1 : Int) : Tr Bool :=
  .bnd law11_awake_F fun c_1 =>
  .br (!c_1) (
    .pure false) (
    .bnd (law08_Classes_F ns0) fun c_2 =>
    .bnd (explicit_Resolve_F c_2 (IntKind.i64.wrap (level1.tmod 2))) fun c_3 =>
    .br ((c_3.1.length : Int) != (c_2.length : Int)) (
      .pure false) (
      .br ((c_3.2.length : Int) != (c_2.length : Int)) (
        .pure false) (
        .alt (loopW (fun s => (law11_ExplicitBounds_L9 s.1 s.2.1 s.2.2.1 s.2.2.2.1 s.2.2.2.2).run) (c_2, IntKind.i64.wrap (level1.tmod 2), c_3.1, c_3.2, 0)) (fun l_32 =>
          .pure true) (fun l_33 =>
          .pure l_33))))
noncomputable def law11_ExplicitBounds_F (ns0 : List Int) (level1 : Int) : Option Bool := (law11_ExplicitBounds_T ns0 level1).run
def law11_ExplicitBounds_L : List (Nat × LoopAnn) := [(9, { head := [.srow 5 1000005 33 true (.int .u8), .sv 6 true (.int .i64), .srow 7 1000007 3 true (.int .i64), .srow 8 1000008 33 true (.int .u8), .sv 9 true (.int .i64)], xid := 0, out := [], hasRet := true, res := [.sv 4 true .bool] })]
noncomputable def law11_ExplicitBounds_C : List (Nat × Callee) := [(12, .plain law11_awake_fun), (14, .plain law08_Classes_fun), (15, .plain explicit_Resolve_fun), (16, .plain bidic_Taken_fun)]
noncomputable def law11_ExplicitBounds_fun : Fun := ⟨[.sl (.int .u8), .int .u8], [.v .bool], fun x => law11_ExplicitBounds_F x.1 x.2.1⟩
theorem law11_ExplicitBounds_ev (x : Tys.I [.sl (.int .u8), .int .u8]) : evFun G0 (fun f => olook f law11_ExplicitBounds_C) ⟨[], [], [], [], [], []⟩ (fun i => olook i law11_ExplicitBounds_L) Try.f5 [.sl (.int .u8), .int .u8] [.v .bool] x = law11_ExplicitBounds_T x.1 x.2.1 := by kernel_rfl
theorem law11_ExplicitBounds_ok : FunOk Try.prog 5 law11_ExplicitBounds_fun := evFun_ok mixed ctx0 (cons_calls (fb := .plain law11_awake_fun) law11_awake_ok (fun h => by cases h) (cons_calls (fb := .plain law08_Classes_fun) law08_Classes_ok (fun h => by cases h) (cons_calls (fb := .plain explicit_Resolve_fun) explicit_Resolve_ok (fun h => by cases h) (cons_calls (fb := .plain bidic_Taken_fun) bidic_Taken_ok (fun h => by cases h) (no_calls))))) Try.func5 (by kernel_rfl) _ (fun x => congrArg Tr.run (law11_ExplicitBounds_ev x)) (by kernel_rfl) (by kernel_rfl)
/-! ### boustrophedon/boustrophedonlaw11.ExplicitPlain -/
noncomputable def law11_ExplicitPlain_L5 (level1 : Int) (cs5 : List Int) (t14 : List Int) (t15 : Int) (t16 : Int) : Tr (Lap (Int × List Int × List Int × Int × Int) (Int × List Int)) :=
  .br (decide (t16 < t15)) (
    .bnd (idx t14 t16) fun x_3 =>
    .br (decide (x_3 < 14)) (
      .br (x_3 != 9) (
        .bnd (app 140737488355328 cs5 ([x_3])) fun r_4 =>
        .pure (.next (level1, r_4, t14, t15, IntKind.i64.wrap (t16 + 1)))) (
        .pure (.next (level1, cs5, t14, t15, IntKind.i64.wrap (t16 + 1))))) (
      .pure (.next (level1, cs5, t14, t15, IntKind.i64.wrap (t16 + 1))))) (
    .pure (.done (level1, cs5)))
noncomputable def law11_ExplicitPlain_L14 (level1 : Int) (cs5 : List Int) (l8 : List Int) (c9 : List Int) (k10 : Int) : Tr (Lap (Int × List Int × List Int × List Int × Int) (Sum Unit Bool)) :=
  .br (decide (k10 < (cs5.length : Int))) (
    .bnd (idx l8 k10) fun x_7 =>
    .br (x_7 != (IntKind.i64.wrap (level1.tmod 2))) (
      .pure (.done (.inr false))) (
      .bnd (idx c9 k10) fun x_8 =>
      .bnd (idx cs5 k10) fun x_9 =>
      .br (x_8 != x_9) (
        .pure (.done (.inr false))) (
        .pure (.next (level1, cs5, l8, c9, IntKind.i64.wrap (k10 + 1)))))) (
    .pure (.done (.inl ())))
noncomputable def law11_ExplicitPlain_T (ns0 : List Int) (level1 : Int) : Tr Bool :=
  .bnd law11_awake_F fun c_1 =>
  .br (!c_1) (
    .pure false) (
    .bnd (law08_Classes_F ns0) fun c_2 =>
    .bnd (loopW (fun s => (law11_ExplicitPlain_L5 s.1 s.2.1 s.2.2.1 s.2.2.2.1 s.2.2.2.2).run) (level1, [], c_2, (c_2.length : Int), 0)) fun l_5 =>
    .bnd (explicit_Resolve_F l_5.2 (IntKind.i64.wrap (l_5.1.tmod 2))) fun c_6 =>
    .br ((c_6.1.length : Int) != (l_5.2.length : Int)) (
      .pure false) (
      .br ((c_6.2.length : Int) != (l_5.2.length : Int)) (
        .pure false) (
        .alt (loopW (fun s => (law11_ExplicitPlain_L14 s.1 s.2.1 s.2.2.1 s.2.2.2.1 s.2.2.2.2).run) (l_5.1, l_5.2, c_6.1, c_6.2, 0)) (fun l_10 =>
          .pure true) (fun l_11 =>
          .pure l_11))))
noncomputable def law11_ExplicitPlain_F (ns0 : List Int) (level1 : Int) : Option Bool := (law11_ExplicitPlain_T ns0 level1).run
def law11_ExplicitPlain_L : List (Nat × LoopAnn) := [(5, { head := [.sv 1 false (.int .u8), .srow 5 1000005 33 true (.int .u8), .srow 14 1000014 33 true (.int .u8), .sv 15 true (.int .i64), .sv 16 true (.int .i64)], xid := 0, out := [.sv 1 false (.int .u8), .srow 5 1000005 33 true (.int .u8)], hasRet := false, res := [] }), (14, { head := [.sv 1 false (.int .u8), .srow 5 1000005 33 true (.int .u8), .srow 8 1000008 3 true (.int .i64), .srow 9 1000009 33 true (.int .u8), .sv 10 true (.int .i64)], xid := 2, out := [], hasRet := true, res := [.sv 4 true .bool] })]
noncomputable def law11_ExplicitPlain_C : List (Nat × Callee) := [(12, .plain law11_awake_fun), (14, .plain law08_Classes_fun), (15, .plain explicit_Resolve_fun)]
noncomputable def law11_ExplicitPlain_fun : Fun := ⟨[.sl (.int .u8), .int .u8], [.v .bool], fun x => law11_ExplicitPlain_F x.1 x.2.1⟩
theorem law11_ExplicitPlain_ev (x : Tys.I [.sl (.int .u8), .int .u8]) : evFun G0 (fun f => olook f law11_ExplicitPlain_C) ⟨[], [], [], [], [], []⟩ (fun i => olook i law11_ExplicitPlain_L) Try.f6 [.sl (.int .u8), .int .u8] [.v .bool] x = law11_ExplicitPlain_T x.1 x.2.1 := by kernel_rfl
theorem law11_ExplicitPlain_ok : FunOk Try.prog 6 law11_ExplicitPlain_fun := evFun_ok mixed ctx0 (cons_calls (fb := .plain law11_awake_fun) law11_awake_ok (fun h => by cases h) (cons_calls (fb := .plain law08_Classes_fun) law08_Classes_ok (fun h => by cases h) (cons_calls (fb := .plain explicit_Resolve_fun) explicit_Resolve_ok (fun h => by cases h) (no_calls)))) Try.func6 (by kernel_rfl) _ (fun x => congrArg Tr.run (law11_ExplicitPlain_ev x)) (by kernel_rfl) (by kernel_rfl)
/-! ### boustrophedon/boustrophedonlaw11.ExplicitAhead -/
noncomputable def law11_ExplicitAhead_L5 (level1 : Int) (cut2 : Int) (cs7 : List Int) (t19 : List Int) (t20 : Int) (t21 : Int) : Tr (Lap (Int × Int × List Int × List Int × Int × Int) (Int × Int × List Int)) :=
  .br (decide (t21 < t20)) (
    .bnd (idx t19 t21) fun x_3 =>
    .br (x_3 != 21) (
      .bnd (app 140737488355328 cs7 ([x_3])) fun r_4 =>
      .pure (.next (level1, cut2, r_4, t19, t20, IntKind.i64.wrap (t21 + 1)))) (
      .pure (.next (level1, cut2, cs7, t19, t20, IntKind.i64.wrap (t21 + 1))))) (
    .pure (.done (level1, cut2, cs7)))
noncomputable def law11_ExplicitAhead_L16 (n10 : Int) (a11 : List Int) (x12 : List Int) (b13 : List Int) (y14 : List Int) (k15 : Int) : Tr (Lap (Int × List Int × List Int × List Int × List Int × Int) (Sum Unit Bool)) :=
  .br (decide (k15 < n10)) (
    .bnd (idx a11 k15) fun x_9 =>
    .bnd (idx b13 k15) fun x_10 =>
    .br (x_9 != x_10) (
      .pure (.done (.inr false))) (
      .bnd (idx x12 k15) fun x_11 =>
      .bnd (idx y14 k15) fun x_12 =>
      .br (x_11 != x_12) (
        .pure (.done (.inr false))) (
        .pure (.next (n10, a11, x12, b13, y14, IntKind.i64.wrap (k15 + 1)))))) (
    .pure (.done (.inl ())))
noncomputable def law11_ExplicitAhead_T (ns0 : List Int) (level1 : Int) (cut2 : Int) : Tr Bool :=
  .bnd law11_awake_F fun c_1 =>
  .br (!c_1) (
    .pure false) (
    .bnd (law08_Classes_F ns0) fun c_2 =>
    .bnd (loopW (fun s => (law11_ExplicitAhead_L5 s.1 s.2.1 s.2.2.1 s.2.2.2.1 s.2.2.2.2.1 s.2.2.2.2.2).run) (level1, cut2, [], c_2, (c_2.length : Int), 0)) fun l_5 =>
    .br ((IntKind.i64.wrap ((l_5.2.2.length : Int) + 1)) != 0) (
      .bnd (explicit_Resolve_F l_5.2.2 (IntKind.i64.wrap (l_5.1.tmod 2))) fun c_6 =>
      .bnd (cut l_5.2.2 0 ((IntKind.i64.wrap l_5.2.1).tmod (IntKind.i64.wrap ((l_5.2.2.length : Int) + 1)))) fun r_7 =>
      .bnd (explicit_Resolve_F r_7 (IntKind.i64.wrap (l_5.1.tmod 2))) fun c_8 =>
      .br ((c_6.1.length : Int) != (l_5.2.2.length : Int)) (
        .pure false) (
        .br ((c_8.1.length : Int) != ((IntKind.i64.wrap l_5.2.1).tmod (IntKind.i64.wrap ((l_5.2.2.length : Int) + 1)))) (
          .pure false) (
          .br ((c_6.2.length : Int) != (l_5.2.2.length : Int)) (
            .pure false) (
            .br ((c_8.2.length : Int) != ((IntKind.i64.wrap l_5.2.1).tmod (IntKind.i64.wrap ((l_5.2.2.length : Int) + 1)))) (
              .pure false) (
              .alt (loopW (fun s => (law11_ExplicitAhead_L16 s.1 s.2.1 s.2.2.1 s.2.2.2.1 s.2.2.2.2.1 s.2.2.2.2.2).run) ((IntKind.i64.wrap l_5.2.1).tmod (IntKind.i64.wrap ((l_5.2.2.length : Int) + 1)), c_6.1, c_6.2, c_8.1, c_8.2, 0)) (fun l_13 =>
                .pure true) (fun l_14 =>
                .pure l_14)))))) (
      .fail))
noncomputable def law11_ExplicitAhead_F (ns0 : List Int) (level1 : Int) (cut2 : Int) : Option Bool := (law11_ExplicitAhead_T ns0 level1 cut2).run
def law11_ExplicitAhead_L : List (Nat × LoopAnn) := [(5, { head := [.sv 1 false (.int .u8), .sv 2 false (.int .u8), .srow 7 1000007 33 true (.int .u8), .srow 19 1000019 33 true (.int .u8), .sv 20 true (.int .i64), .sv 21 true (.int .i64)], xid := 0, out := [.sv 1 false (.int .u8), .sv 2 false (.int .u8), .srow 7 1000007 33 true (.int .u8)], hasRet := false, res := [] }), (16, { head := [.sv 10 true (.int .i64), .srow 11 1000011 3 true (.int .i64), .srow 12 1000012 33 true (.int .u8), .srow 13 1000013 3 true (.int .i64), .srow 14 1000014 33 true (.int .u8), .sv 15 true (.int .i64)], xid := 2, out := [], hasRet := true, res := [.sv 6 true .bool] })]
noncomputable def law11_ExplicitAhead_C : List (Nat × Callee) := [(12, .plain law11_awake_fun), (14, .plain law08_Classes_fun), (15, .plain explicit_Resolve_fun)]
noncomputable def law11_ExplicitAhead_fun : Fun := ⟨[.sl (.int .u8), .int .u8, .int .u8], [.v .bool], fun x => law11_ExplicitAhead_F x.1 x.2.1 x.2.2.1⟩
theorem law11_ExplicitAhead_ev (x : Tys.I [.sl (.int .u8), .int .u8, .int .u8]) : evFun G0 (fun f => olook f law11_ExplicitAhead_C) ⟨[], [], [], [], [], []⟩ (fun i => olook i law11_ExplicitAhead_L) Try.f7 [.sl (.int .u8), .int .u8, .int .u8] [.v .bool] x = law11_ExplicitAhead_T x.1 x.2.1 x.2.2.1 := by kernel_rfl
theorem law11_ExplicitAhead_ok : FunOk Try.prog 7 law11_ExplicitAhead_fun := evFun_ok mixed ctx0 (cons_calls (fb := .plain law11_awake_fun) law11_awake_ok (fun h => by cases h) (cons_calls (fb := .plain law08_Classes_fun) law08_Classes_ok (fun h => by cases h) (cons_calls (fb := .plain explicit_Resolve_fun) explicit_Resolve_ok (fun h => by cases h) (no_calls)))) Try.func7 (by kernel_rfl) _ (fun x => congrArg Tr.run (law11_ExplicitAhead_ev x)) (by kernel_rfl) (by kernel_rfl)
/-! ### boustrophedon/boustrophedonlaw11.ExplicitFirst -/
noncomputable def law11_ExplicitFirst_L10 (rest9 : List Int) (a10 : List Int) (b12 : List Int) (t44 : Int) (t45 : Int) : Tr (Lap (List Int × List Int × List Int × Int × Int) (Sum (List Int × List Int) Bool)) :=
  .br (decide (t45 < t44)) (
    .br ((a10.length : Int) != (b12.length : Int)) (
      .pure (.done (.inr false))) (
      .bnd (idx a10 t45) fun x_7 =>
      .bnd (idx b12 t45) fun x_8 =>
      .br (x_7 != x_8) (
        .pure (.done (.inr false))) (
        .pure (.next (rest9, a10, b12, t44, IntKind.i64.wrap (t45 + 1)))))) (
    .pure (.done (.inl (rest9, a10))))
noncomputable def law11_ExplicitFirst_T (ns0 : List Int) (level1 : Int) (right2 : Bool) : Tr Bool :=
  .bnd law11_awake_F fun c_1 =>
  .br (!c_1) (
    .pure false) (
    .br right2 (
      .bnd (law08_Classes_F ns0) fun c_2 =>
      .bnd (app 140737488355328 ([21, 1]) c_2) fun r_3 =>
      .bnd (explicit_Resolve_F r_3 (IntKind.i64.wrap (level1.tmod 2))) fun c_4 =>
      .bnd (app 140737488355328 ([20, 1]) c_2) fun r_5 =>
      .bnd (explicit_Resolve_F r_5 (IntKind.i64.wrap (level1.tmod 2))) fun c_6 =>
      .alt (loopW (fun s => (law11_ExplicitFirst_L10 s.1 s.2.1 s.2.2.1 s.2.2.2.1 s.2.2.2.2).run) (c_2, c_4.1, c_6.1, (c_4.1.length : Int), 0)) (fun l_9 =>
        .pure ((l_9.2.length : Int) == (IntKind.i64.wrap ((l_9.1.length : Int) + 2)))) (fun l_10 =>
        .pure l_10)) (
      .bnd (law08_Classes_F ns0) fun c_11 =>
      .bnd (app 140737488355328 ([21, 0]) c_11) fun r_12 =>
      .bnd (explicit_Resolve_F r_12 (IntKind.i64.wrap (level1.tmod 2))) fun c_13 =>
      .bnd (app 140737488355328 ([19, 0]) c_11) fun r_14 =>
      .bnd (explicit_Resolve_F r_14 (IntKind.i64.wrap (level1.tmod 2))) fun c_15 =>
      .alt (loopW (fun s => (law11_ExplicitFirst_L10 s.1 s.2.1 s.2.2.1 s.2.2.2.1 s.2.2.2.2).run) (c_11, c_13.1, c_15.1, (c_13.1.length : Int), 0)) (fun l_16 =>
        .pure ((l_16.2.length : Int) == (IntKind.i64.wrap ((l_16.1.length : Int) + 2)))) (fun l_17 =>
        .pure l_17)))
noncomputable def law11_ExplicitFirst_F (ns0 : List Int) (level1 : Int) (right2 : Bool) : Option Bool := (law11_ExplicitFirst_T ns0 level1 right2).run
def law11_ExplicitFirst_L : List (Nat × LoopAnn) := [(10, { head := [.srow 9 1000009 33 true (.int .u8), .srow 10 1000010 3 true (.int .i64), .srow 12 1000012 3 true (.int .i64), .sv 44 true (.int .i64), .sv 45 true (.int .i64)], xid := 0, out := [.srow 9 1000009 33 true (.int .u8), .srow 10 1000010 3 true (.int .i64)], hasRet := true, res := [.sv 6 true .bool] })]
noncomputable def law11_ExplicitFirst_C : List (Nat × Callee) := [(12, .plain law11_awake_fun), (14, .plain law08_Classes_fun), (15, .plain explicit_Resolve_fun)]
noncomputable def law11_ExplicitFirst_fun : Fun := ⟨[.sl (.int .u8), .int .u8, .bool], [.v .bool], fun x => law11_ExplicitFirst_F x.1 x.2.1 x.2.2.1⟩
theorem law11_ExplicitFirst_ev (x : Tys.I [.sl (.int .u8), .int .u8, .bool]) : evFun G0 (fun f => olook f law11_ExplicitFirst_C) ⟨[], [], [], [], [], []⟩ (fun i => olook i law11_ExplicitFirst_L) Try.f8 [.sl (.int .u8), .int .u8, .bool] [.v .bool] x = law11_ExplicitFirst_T x.1 x.2.1 x.2.2.1 := by kernel_rfl
theorem law11_ExplicitFirst_ok : FunOk Try.prog 8 law11_ExplicitFirst_fun := evFun_ok mixed ctx0 (cons_calls (fb := .plain law11_awake_fun) law11_awake_ok (fun h => by cases h) (cons_calls (fb := .plain law08_Classes_fun) law08_Classes_ok (fun h => by cases h) (cons_calls (fb := .plain explicit_Resolve_fun) explicit_Resolve_ok (fun h => by cases h) (no_calls)))) Try.func8 (by kernel_rfl) _ (fun x => congrArg Tr.run (law11_ExplicitFirst_ev x)) (by kernel_rfl) (by kernel_rfl)
/-! ### boustrophedon/runs.Of -/
noncomputable def runs_Of_L4 (levels0 : List Int) (all3 : List (List Int)) (run4 : List Int) (t7 : List Int) (t8 : Int) (t9 : Int) : Tr (Lap (List Int × List (List Int) × List Int × List Int × Int × Int) (List (List Int) × List Int)) :=
  .br (decide (t9 < t8)) (
    .bnd (idx t7 t9) fun x_1 =>
    .br (x_1 == (-1)) (
      .pure (.next (levels0, all3, run4, t7, t8, IntKind.i64.wrap (t9 + 1)))) (
      .br (decide ((run4.length : Int) > 0)) (
        .bnd (idx run4 0) fun x_2 =>
        .bnd (idx levels0 x_2) fun x_3 =>
        .br (x_3 != x_1) (
          .bnd (app 5864062014805 all3 ([run4])) fun r_4 =>
          .bnd (app 17592186044416 [] ([t9])) fun r_5 =>
          .pure (.next (levels0, r_4, r_5, t7, t8, IntKind.i64.wrap (t9 + 1)))) (
          .bnd (app 17592186044416 run4 ([t9])) fun r_6 =>
          .pure (.next (levels0, all3, r_6, t7, t8, IntKind.i64.wrap (t9 + 1))))) (
        .bnd (app 17592186044416 run4 ([t9])) fun r_7 =>
        .pure (.next (levels0, all3, r_7, t7, t8, IntKind.i64.wrap (t9 + 1)))))) (
    .pure (.done (all3, run4)))
noncomputable def runs_Of_T (levels0 : List Int) : Tr (List (List Int)) :=
  .bnd (loopW (fun s => (runs_Of_L4 s.1 s.2.1 s.2.2.1 s.2.2.2.1 s.2.2.2.2.1 s.2.2.2.2.2).run) (levels0, [], [], levels0, (levels0.length : Int), 0)) fun l_8 =>
  .br (decide ((l_8.2.length : Int) > 0)) (
    .bnd (app 5864062014805 l_8.1 ([l_8.2])) fun r_9 =>
    .pure r_9) (
    .pure l_8.1)
noncomputable def runs_Of_F (levels0 : List Int) : Option (List (List Int)) := (runs_Of_T levels0).run
def runs_Of_L : List (Nat × LoopAnn) := [(4, { head := [.sv 0 false (.sl (.int .i64)), .srow 3 1000003 29 true (.sl (.int .i64)), .srow 4 1000004 3 true (.int .i64), .sv 7 false (.sl (.int .i64)), .sv 8 true (.int .i64), .sv 9 true (.int .i64)], xid := 0, out := [.srow 3 1000003 29 true (.sl (.int .i64)), .srow 4 1000004 3 true (.int .i64)], hasRet := false, res := [] })]
noncomputable def runs_Of_C : List (Nat × Callee) := []
noncomputable def runs_Of_fun : Fun := ⟨[.sl (.int .i64)], [.row 29 (.sl (.int .i64))], fun x => runs_Of_F x.1⟩
theorem runs_Of_ev (x : Tys.I [.sl (.int .i64)]) : evFun G0 (fun f => olook f runs_Of_C) ⟨[], [], [], [], [], []⟩ (fun i => olook i runs_Of_L) Try.f34 [.sl (.int .i64)] [.row 29 (.sl (.int .i64))] x = runs_Of_T x.1 := by kernel_rfl
theorem runs_Of_ok : FunOk Try.prog 34 runs_Of_fun := evFun_ok mixed ctx0 (no_calls) Try.func34 (by kernel_rfl) _ (fun x => congrArg Tr.run (runs_Of_ev x)) (by kernel_rfl) (by kernel_rfl)
/-! ### boustrophedon/isolate.Match -/
noncomputable def isolate_Match_L4 (match3 : List Int) (open4 : List Int) (t11 : List Int) (t12 : Int) (t13 : Int) : Tr (Lap (List Int × List Int × List Int × Int × Int) (List Int)) :=
  .br (decide (t13 < t12)) (
    .bnd (idx t11 t13) fun x_2 =>
    .bnd (idx match3 t13) fun x_3 =>
    .bnd (bidic_Isolate_F x_2) fun c_4 =>
    .br c_4 (
      .bnd (app 17592186044416 open4 ([t13])) fun r_5 =>
      .br (x_2 == 22) (
        .br (decide ((r_5.length : Int) > 0)) (
          .bnd (idx r_5 (IntKind.i64.wrap ((r_5.length : Int) - 1))) fun x_6 =>
          .bnd (idx r_5 (IntKind.i64.wrap ((r_5.length : Int) - 1))) fun x_7 =>
          .bnd (idx (match3.set (Int.toNat t13) (-1)) t13) fun x_8 =>
          .bnd (idx ((match3.set (Int.toNat t13) (-1)).set (Int.toNat t13) x_7) x_6) fun x_9 =>
          .bnd (cut r_5 0 (IntKind.i64.wrap ((r_5.length : Int) - 1))) fun r_10 =>
          .pure (.next (((match3.set (Int.toNat t13) (-1)).set (Int.toNat t13) x_7).set (Int.toNat x_6) t13, r_10, t11, t12, IntKind.i64.wrap (t13 + 1)))) (
          .pure (.next (match3.set (Int.toNat t13) (-1), r_5, t11, t12, IntKind.i64.wrap (t13 + 1))))) (
        .pure (.next (match3.set (Int.toNat t13) (-1), r_5, t11, t12, IntKind.i64.wrap (t13 + 1))))) (
      .br (x_2 == 22) (
        .br (decide ((open4.length : Int) > 0)) (
          .bnd (idx open4 (IntKind.i64.wrap ((open4.length : Int) - 1))) fun x_11 =>
          .bnd (idx open4 (IntKind.i64.wrap ((open4.length : Int) - 1))) fun x_12 =>
          .bnd (idx (match3.set (Int.toNat t13) (-1)) t13) fun x_13 =>
          .bnd (idx ((match3.set (Int.toNat t13) (-1)).set (Int.toNat t13) x_12) x_11) fun x_14 =>
          .bnd (cut open4 0 (IntKind.i64.wrap ((open4.length : Int) - 1))) fun r_15 =>
          .pure (.next (((match3.set (Int.toNat t13) (-1)).set (Int.toNat t13) x_12).set (Int.toNat x_11) t13, r_15, t11, t12, IntKind.i64.wrap (t13 + 1)))) (
          .pure (.next (match3.set (Int.toNat t13) (-1), open4, t11, t12, IntKind.i64.wrap (t13 + 1))))) (
        .pure (.next (match3.set (Int.toNat t13) (-1), open4, t11, t12, IntKind.i64.wrap (t13 + 1)))))) (
    .pure (.done match3))
noncomputable def isolate_Match_T (cs0 : List Int) : Tr (List Int) :=
  .bnd (mk 17592186044416 0 (cs0.length : Int)) fun r_1 =>
  .bnd (loopW (fun s => (isolate_Match_L4 s.1 s.2.1 s.2.2.1 s.2.2.2.1 s.2.2.2.2).run) (r_1, [], cs0, (cs0.length : Int), 0)) fun l_16 =>
  .pure l_16
noncomputable def isolate_Match_F (cs0 : List Int) : Option (List Int) := (isolate_Match_T cs0).run
def isolate_Match_L : List (Nat × LoopAnn) := [(4, { head := [.srow 3 1000003 3 true (.int .i64), .srow 4 1000004 3 true (.int .i64), .sv 11 false (.sl (.int .u8)), .sv 12 true (.int .i64), .sv 13 true (.int .i64)], xid := 0, out := [.srow 3 1000003 3 true (.int .i64)], hasRet := false, res := [] })]
noncomputable def isolate_Match_C : List (Nat × Callee) := [(27, .plain bidic_Isolate_fun)]
noncomputable def isolate_Match_fun : Fun := ⟨[.sl (.int .u8)], [.row 3 (.int .i64)], fun x => isolate_Match_F x.1⟩
theorem isolate_Match_ev (x : Tys.I [.sl (.int .u8)]) : evFun G0 (fun f => olook f isolate_Match_C) ⟨[53], [], [], [], [], []⟩ (fun i => olook i isolate_Match_L) Try.f49 [.sl (.int .u8)] [.row 3 (.int .i64)] x = isolate_Match_T x.1 := by kernel_rfl
theorem isolate_Match_ok : FunOk Try.prog 49 isolate_Match_fun := evFun_ok mixed ctx0 (cons_calls (fb := .plain bidic_Isolate_fun) bidic_Isolate_ok (fun h => by cases h) (no_calls)) Try.func49 (by kernel_rfl) _ (fun x => congrArg Tr.run (isolate_Match_ev x)) (by kernel_rfl) (by kernel_rfl)
/-! ### math/bits.Mul32 -/
noncomputable def bits_Mul32_T (x0 : Int) (y1 : Int) : Tr (Int × Int) :=
  .pure (IntKind.u32.wrap (shiftBy .shr .u64 (IntKind.u64.wrap ((IntKind.u64.wrap x0) * (IntKind.u64.wrap y1))) 32), IntKind.u32.wrap (IntKind.u64.wrap ((IntKind.u64.wrap x0) * (IntKind.u64.wrap y1))))
noncomputable def bits_Mul32_F (x0 : Int) (y1 : Int) : Option (Int × Int) := (bits_Mul32_T x0 y1).run
def bits_Mul32_L : List (Nat × LoopAnn) := []
noncomputable def bits_Mul32_C : List (Nat × Callee) := []
noncomputable def bits_Mul32_fun : Fun := ⟨[.int .u32, .int .u32], [.v (.int .u32), .v (.int .u32)], fun x => bits_Mul32_F x.1 x.2.1⟩
theorem bits_Mul32_ev (x : Tys.I [.int .u32, .int .u32]) : evFun G0 (fun f => olook f bits_Mul32_C) ⟨[], [], [], [], [], []⟩ (fun i => olook i bits_Mul32_L) Try.f55 [.int .u32, .int .u32] [.v (.int .u32), .v (.int .u32)] x = bits_Mul32_T x.1 x.2.1 := by kernel_rfl
theorem bits_Mul32_ok : FunOk Try.prog 55 bits_Mul32_fun := evFun_ok mixed ctx0 (no_calls) Try.func55 (by kernel_rfl) _ (fun x => congrArg Tr.run (bits_Mul32_ev x)) (by kernel_rfl) (by kernel_rfl)
/-! ### math/bits.Mul64 -/
noncomputable def bits_Mul64_T (x0 : Int) (y1 : Int) : Tr (Int × Int) :=
  .pure (IntKind.u64.wrap ((IntKind.u64.wrap ((IntKind.u64.wrap ((shiftBy .shr .u64 x0 32) * (shiftBy .shr .u64 y1 32))) + (shiftBy .shr .u64 (IntKind.u64.wrap ((IntKind.u64.wrap ((shiftBy .shr .u64 x0 32) * (ibits .and .u64 y1 4294967295))) + (shiftBy .shr .u64 (IntKind.u64.wrap ((ibits .and .u64 x0 4294967295) * (ibits .and .u64 y1 4294967295))) 32))) 32))) + (shiftBy .shr .u64 (IntKind.u64.wrap ((ibits .and .u64 (IntKind.u64.wrap ((IntKind.u64.wrap ((shiftBy .shr .u64 x0 32) * (ibits .and .u64 y1 4294967295))) + (shiftBy .shr .u64 (IntKind.u64.wrap ((ibits .and .u64 x0 4294967295) * (ibits .and .u64 y1 4294967295))) 32))) 4294967295) + (IntKind.u64.wrap ((ibits .and .u64 x0 4294967295) * (shiftBy .shr .u64 y1 32))))) 32)), IntKind.u64.wrap (x0 * y1))
noncomputable def bits_Mul64_F (x0 : Int) (y1 : Int) : Option (Int × Int) := (bits_Mul64_T x0 y1).run
def bits_Mul64_L : List (Nat × LoopAnn) := []
noncomputable def bits_Mul64_C : List (Nat × Callee) := []
noncomputable def bits_Mul64_fun : Fun := ⟨[.int .u64, .int .u64], [.v (.int .u64), .v (.int .u64)], fun x => bits_Mul64_F x.1 x.2.1⟩
theorem bits_Mul64_ev (x : Tys.I [.int .u64, .int .u64]) : evFun G0 (fun f => olook f bits_Mul64_C) ⟨[], [], [], [], [], []⟩ (fun i => olook i bits_Mul64_L) Try.f56 [.int .u64, .int .u64] [.v (.int .u64), .v (.int .u64)] x = bits_Mul64_T x.1 x.2.1 := by kernel_rfl
theorem bits_Mul64_ok : FunOk Try.prog 56 bits_Mul64_fun := evFun_ok mixed ctx0 (no_calls) Try.func56 (by kernel_rfl) _ (fun x => congrArg Tr.run (bits_Mul64_ev x)) (by kernel_rfl) (by kernel_rfl)
/-! ### math/bits.Mul -/
noncomputable def bits_Mul_T (x0 : Int) (y1 : Int) : Tr (Int × Int) :=
  .bnd (bits_Mul64_F x0 y1) fun c_1 =>
  .pure (c_1.1, c_1.2)
noncomputable def bits_Mul_F (x0 : Int) (y1 : Int) : Option (Int × Int) := (bits_Mul_T x0 y1).run
def bits_Mul_L : List (Nat × LoopAnn) := []
noncomputable def bits_Mul_C : List (Nat × Callee) := [(56, .plain bits_Mul64_fun)]
noncomputable def bits_Mul_fun : Fun := ⟨[.int .u64, .int .u64], [.v (.int .u64), .v (.int .u64)], fun x => bits_Mul_F x.1 x.2.1⟩
theorem bits_Mul_ev (x : Tys.I [.int .u64, .int .u64]) : evFun G0 (fun f => olook f bits_Mul_C) ⟨[], [], [], [], [], []⟩ (fun i => olook i bits_Mul_L) Try.f54 [.int .u64, .int .u64] [.v (.int .u64), .v (.int .u64)] x = bits_Mul_T x.1 x.2.1 := by kernel_rfl
theorem bits_Mul_ok : FunOk Try.prog 54 bits_Mul_fun := evFun_ok mixed ctx0 (cons_calls (fb := .plain bits_Mul64_fun) bits_Mul64_ok (fun h => by cases h) (no_calls)) Try.func54 (by kernel_rfl) _ (fun x => congrArg Tr.run (bits_Mul_ev x)) (by kernel_rfl) (by kernel_rfl)
/-! ### slices.Repeat[[]int,int] -/
noncomputable def slices_Repeat___int_int__L8 (newslice7 : List Int) (n8 : Int) : Tr (Lap (List Int × Int) (List Int)) :=
  .br (decide (n8 < (newslice7.length : Int))) (
    .bnd (cut newslice7 n8 (newslice7.length : Int)) fun r_3 =>
    .bnd (cut newslice7 0 n8) fun r_4 =>
    .pure (.next (splice' newslice7 ((n8).toNat) r_3.length (r_4.take ((newslice7.drop ((n8).toNat)).take r_3.length).length ++ ((newslice7.drop ((n8).toNat)).take r_3.length).drop r_4.length), IntKind.i64.wrap (n8 + ((min r_4.length ((newslice7.drop ((n8).toNat)).take r_3.length).length : Nat) : Int))))) (
    .pure (.done newslice7))
noncomputable def slices_Repeat___int_int__T (x0 : List Int) (count1 : Int) : Tr (List Int) :=
  .br (decide (count1 < 0)) (
    .fail) (
    .bnd (bits_Mul_F (IntKind.u64.wrap (x0.length : Int)) (IntKind.u64.wrap count1)) fun c_1 =>
    .br (decide (c_1.1 > 0)) (
      .fail) (
      .br (decide (c_1.2 > 9223372036854775807)) (
        .fail) (
        .bnd (mk 17592186044416 0 (IntKind.i64.wrap c_1.2)) fun r_2 =>
        .bnd (loopW (fun s => (slices_Repeat___int_int__L8 s.1 s.2).run) (x0.take r_2.length ++ r_2.drop x0.length, ((min x0.length r_2.length : Nat) : Int))) fun l_5 =>
        .pure l_5)))
noncomputable def slices_Repeat___int_int__F (x0 : List Int) (count1 : Int) : Option (List Int) := (slices_Repeat___int_int__T x0 count1).run
def slices_Repeat___int_int__L : List (Nat × LoopAnn) := [(8, { head := [.srow 7 1000007 3 true (.int .i64), .sv 8 true (.int .i64)], xid := 0, out := [.srow 7 1000007 3 true (.int .i64)], hasRet := false, res := [] })]
noncomputable def slices_Repeat___int_int__C : List (Nat × Callee) := [(54, .plain bits_Mul_fun)]
noncomputable def slices_Repeat___int_int__fun : Fun := ⟨[.sl (.int .i64), .int .i64], [.row 3 (.int .i64)], fun x => slices_Repeat___int_int__F x.1 x.2.1⟩
theorem slices_Repeat___int_int__ev (x : Tys.I [.sl (.int .i64), .int .i64]) : evFun G0 (fun f => olook f slices_Repeat___int_int__C) ⟨[], [], [], [], [], []⟩ (fun i => olook i slices_Repeat___int_int__L) Try.f52 [.sl (.int .i64), .int .i64] [.row 3 (.int .i64)] x = slices_Repeat___int_int__T x.1 x.2.1 := by kernel_rfl
theorem slices_Repeat___int_int__ok : FunOk Try.prog 52 slices_Repeat___int_int__fun := evFun_ok mixed ctx0 (cons_calls (fb := .plain bits_Mul_fun) bits_Mul_ok (fun h => by cases h) (no_calls)) Try.func52 (by kernel_rfl) _ (fun x => congrArg Tr.run (slices_Repeat___int_int__ev x)) (by kernel_rfl) (by kernel_rfl)
/-! ### boustrophedon/seqs.follow -/
noncomputable def seqs_follow_L3 (rs0 : List (List Int)) (cs1 : List Int) (begins5 : List Int) (t17 : List (List Int)) (t18 : Int) (t19 : Int) : Tr (Lap (List (List Int) × List Int × List Int × List (List Int) × Int × Int) (List (List Int) × List Int × List Int)) :=
  .br (decide (t19 < t18)) (
    .bnd (idx t17 t19) fun x_2 =>
    .bnd (idx x_2 0) fun x_3 =>
    .bnd (idx begins5 x_3) fun x_4 =>
    .pure (.next (rs0, cs1, begins5.set (Int.toNat x_3) t19, t17, t18, IntKind.i64.wrap (t19 + 1)))) (
    .pure (.done (rs0, cs1, begins5)))
noncomputable def seqs_follow_L10 (cs1 : List Int) (begins5 : List Int) (match8 : List Int) (next9 : List Int) (t36 : List (List Int)) (t37 : Int) (t38 : Int) : Tr (Lap (List Int × List Int × List Int × List Int × List (List Int) × Int × Int) (List Int)) :=
  .br (decide (t38 < t37)) (
    .bnd (idx t36 t38) fun x_8 =>
    .bnd (idx next9 t38) fun x_9 =>
    .bnd (idx x_8 (IntKind.i64.wrap ((x_8.length : Int) - 1))) fun x_10 =>
    .bnd (idx cs1 x_10) fun x_11 =>
    .bnd (bidic_Isolate_F x_11) fun c_12 =>
    .br c_12 (
      .bnd (idx match8 x_10) fun x_13 =>
      .br (x_13 != (-1)) (
        .bnd (idx match8 x_10) fun x_14 =>
        .bnd (idx begins5 x_14) fun x_15 =>
        .bnd (idx (next9.set (Int.toNat t38) (-1)) t38) fun x_16 =>
        .pure (.next (cs1, begins5, match8, (next9.set (Int.toNat t38) (-1)).set (Int.toNat t38) x_15, t36, t37, IntKind.i64.wrap (t38 + 1)))) (
        .pure (.next (cs1, begins5, match8, next9.set (Int.toNat t38) (-1), t36, t37, IntKind.i64.wrap (t38 + 1))))) (
      .pure (.next (cs1, begins5, match8, next9.set (Int.toNat t38) (-1), t36, t37, IntKind.i64.wrap (t38 + 1))))) (
    .pure (.done next9))
noncomputable def seqs_follow_T (rs0 : List (List Int)) (cs1 : List Int) : Tr (List Int) :=
  .bnd (slices_Repeat___int_int__F ([(-1)]) (cs1.length : Int)) fun c_1 =>
  .bnd (loopW (fun s => (seqs_follow_L3 s.1 s.2.1 s.2.2.1 s.2.2.2.1 s.2.2.2.2.1 s.2.2.2.2.2).run) (rs0, cs1, c_1, rs0, (rs0.length : Int), 0)) fun l_5 =>
  .bnd (isolate_Match_F l_5.2.1) fun c_6 =>
  .bnd (mk 17592186044416 0 (l_5.1.length : Int)) fun r_7 =>
  .bnd (loopW (fun s => (seqs_follow_L10 s.1 s.2.1 s.2.2.1 s.2.2.2.1 s.2.2.2.2.1 s.2.2.2.2.2.1 s.2.2.2.2.2.2).run) (l_5.2.1, l_5.2.2, c_6, r_7, l_5.1, (l_5.1.length : Int), 0)) fun l_17 =>
  .pure l_17
noncomputable def seqs_follow_F (rs0 : List (List Int)) (cs1 : List Int) : Option (List Int) := (seqs_follow_T rs0 cs1).run
def seqs_follow_L : List (Nat × LoopAnn) := [(3, { head := [.sv 0 false (.sl (.sl (.int .i64))), .sv 1 false (.sl (.int .u8)), .srow 5 1000005 3 true (.int .i64), .sv 17 false (.sl (.sl (.int .i64))), .sv 18 true (.int .i64), .sv 19 true (.int .i64)], xid := 0, out := [.sv 0 false (.sl (.sl (.int .i64))), .sv 1 false (.sl (.int .u8)), .srow 5 1000005 3 true (.int .i64)], hasRet := false, res := [] }), (10, { head := [.sv 1 false (.sl (.int .u8)), .srow 5 1000005 3 true (.int .i64), .srow 8 1000008 3 true (.int .i64), .srow 9 1000009 3 true (.int .i64), .sv 36 false (.sl (.sl (.int .i64))), .sv 37 true (.int .i64), .sv 38 true (.int .i64)], xid := 2, out := [.srow 9 1000009 3 true (.int .i64)], hasRet := false, res := [] })]
noncomputable def seqs_follow_C : List (Nat × Callee) := [(52, .plain slices_Repeat___int_int__fun), (49, .plain isolate_Match_fun), (27, .plain bidic_Isolate_fun)]
noncomputable def seqs_follow_fun : Fun := ⟨[.sl (.sl (.int .i64)), .sl (.int .u8)], [.row 3 (.int .i64)], fun x => seqs_follow_F x.1 x.2.1⟩
theorem seqs_follow_ev (x : Tys.I [.sl (.sl (.int .i64)), .sl (.int .u8)]) : evFun G0 (fun f => olook f seqs_follow_C) ⟨[], [], [], [], [], []⟩ (fun i => olook i seqs_follow_L) Try.f35 [.sl (.sl (.int .i64)), .sl (.int .u8)] [.row 3 (.int .i64)] x = seqs_follow_T x.1 x.2.1 := by kernel_rfl
theorem seqs_follow_ok : FunOk Try.prog 35 seqs_follow_fun := evFun_ok mixed ctx0 (cons_calls (fb := .plain slices_Repeat___int_int__fun) slices_Repeat___int_int__ok (fun h => by cases h) (cons_calls (fb := .plain isolate_Match_fun) isolate_Match_ok (fun h => by cases h) (cons_calls (fb := .plain bidic_Isolate_fun) bidic_Isolate_ok (fun h => by cases h) (no_calls)))) Try.func35 (by kernel_rfl) _ (fun x => congrArg Tr.run (seqs_follow_ev x)) (by kernel_rfl) (by kernel_rfl)
/-! ### slices.Clone[[]int,int] -/
noncomputable def slices_Clone___int_int__T (s0 : List Int) : Tr (List Int) :=
  .bnd (app 17592186044416 ([]) s0) fun r_1 =>
  .pure r_1
noncomputable def slices_Clone___int_int__F (s0 : List Int) : Option (List Int) := (slices_Clone___int_int__T s0).run
def slices_Clone___int_int__L : List (Nat × LoopAnn) := []
noncomputable def slices_Clone___int_int__C : List (Nat × Callee) := []
noncomputable def slices_Clone___int_int__fun : Fun := ⟨[.sl (.int .i64)], [.row 3 (.int .i64)], fun x => slices_Clone___int_int__F x.1⟩
noncomputable def slices_Clone___int_int__T0 : Tr (List Int) :=
  .pure ([])
theorem slices_Clone___int_int__ev0 : evFunS G0 (fun f => olook f slices_Clone___int_int__C) ⟨[], [], [], [], [], []⟩ (fun i => olook i slices_Clone___int_int__L) Try.f36 [.nil] [.row 3 (.int .i64)] = slices_Clone___int_int__T0 := by kernel_rfl
theorem slices_Clone___int_int__ev1 (s0 : List Int) : evFunS G0 (fun f => olook f slices_Clone___int_int__C) ⟨[], [], [], [], [], []⟩ (fun i => olook i slices_Clone___int_int__L) Try.f36 [.nn false (.int .i64) s0] [.row 3 (.int .i64)] = slices_Clone___int_int__T s0 := by kernel_rfl
theorem slices_Clone___int_int__nil (r : List Int) (h : slices_Clone___int_int__F [] = some r) : slices_Clone___int_int__T0.run = some r := by
  simp [slices_Clone___int_int__F, slices_Clone___int_int__T, slices_Clone___int_int__T0, app, mk, Tr.run] at h ⊢
  exact h
theorem slices_Clone___int_int__ok : FunOk Try.prog 36 slices_Clone___int_int__fun := evFunN_ok (A := ⟨[], [], [], [], [], []⟩) (L := fun i => olook i slices_Clone___int_int__L) mixed ctx0 (no_calls) Try.func36 (by kernel_rfl) _ (fun r h => (congrArg Tr.run slices_Clone___int_int__ev0).trans (slices_Clone___int_int__nil r h)) (fun s0 r h => (congrArg Tr.run (slices_Clone___int_int__ev1 s0)).trans h) (by kernel_rfl)
/-! ### boustrophedon/seqs.direction -/
noncomputable def seqs_direction_T (level0 : Int) : Tr Int :=
  .br (decide (level0 > 0)) (
    .br ((level0.tmod 2) == 1) (
      .pure 1) (
      .pure 0)) (
    .pure 0)
noncomputable def seqs_direction_F (level0 : Int) : Option Int := (seqs_direction_T level0).run
def seqs_direction_L : List (Nat × LoopAnn) := []
noncomputable def seqs_direction_C : List (Nat × Callee) := []
noncomputable def seqs_direction_fun : Fun := ⟨[.int .i64], [.v (.int .u8)], fun x => seqs_direction_F x.1⟩
theorem seqs_direction_ev (x : Tys.I [.int .i64]) : evFun G0 (fun f => olook f seqs_direction_C) ⟨[], [], [], [], [], []⟩ (fun i => olook i seqs_direction_L) Try.f37 [.int .i64] [.v (.int .u8)] x = seqs_direction_T x.1 := by kernel_rfl
theorem seqs_direction_ok : FunOk Try.prog 37 seqs_direction_fun := evFun_ok mixed ctx0 (no_calls) Try.func37 (by kernel_rfl) _ (fun x => congrArg Tr.run (seqs_direction_ev x)) (by kernel_rfl) (by kernel_rfl)
/-! ### boustrophedon/seqs.before -/
noncomputable def seqs_before_T (rs0 : List (List Int)) (first1 : Int) (levels2 : List Int) (base3 : Int) : Tr Int :=
  .br (first1 == 0) (
    .pure base3) (
    .bnd (idx rs0 (IntKind.i64.wrap (first1 - 1))) fun x_1 =>
    .bnd (idx x_1 (IntKind.i64.wrap ((x_1.length : Int) - 1))) fun x_2 =>
    .bnd (idx levels2 x_2) fun x_3 =>
    .pure x_3)
noncomputable def seqs_before_F (rs0 : List (List Int)) (first1 : Int) (levels2 : List Int) (base3 : Int) : Option Int := (seqs_before_T rs0 first1 levels2 base3).run
def seqs_before_L : List (Nat × LoopAnn) := []
noncomputable def seqs_before_C : List (Nat × Callee) := []
noncomputable def seqs_before_fun : Fun := ⟨[.sl (.sl (.int .i64)), .int .i64, .sl (.int .i64), .int .i64], [.v (.int .i64)], fun x => seqs_before_F x.1 x.2.1 x.2.2.1 x.2.2.2.1⟩
theorem seqs_before_ev (x : Tys.I [.sl (.sl (.int .i64)), .int .i64, .sl (.int .i64), .int .i64]) : evFun G0 (fun f => olook f seqs_before_C) ⟨[], [], [], [], [], []⟩ (fun i => olook i seqs_before_L) Try.f38 [.sl (.sl (.int .i64)), .int .i64, .sl (.int .i64), .int .i64] [.v (.int .i64)] x = seqs_before_T x.1 x.2.1 x.2.2.1 x.2.2.2.1 := by kernel_rfl
theorem seqs_before_ok : FunOk Try.prog 38 seqs_before_fun := evFun_ok mixed ctx0 (no_calls) Try.func38 (by kernel_rfl) _ (fun x => congrArg Tr.run (seqs_before_ev x)) (by kernel_rfl) (by kernel_rfl)
/-! ### boustrophedon/seqs.after -/
noncomputable def seqs_after_T (rs0 : List (List Int)) (last1 : Int) (levels2 : List Int) (cs3 : List Int) (base4 : Int) : Tr Int :=
  .bnd (idx rs0 last1) fun x_1 =>
  .br ((IntKind.i64.wrap (last1 + 1)) == (rs0.length : Int)) (
    .pure base4) (
    .bnd (idx x_1 (IntKind.i64.wrap ((x_1.length : Int) - 1))) fun x_2 =>
    .bnd (idx cs3 x_2) fun x_3 =>
    .bnd (bidic_Isolate_F x_3) fun c_4 =>
    .br c_4 (
      .pure base4) (
      .bnd (idx rs0 (IntKind.i64.wrap (last1 + 1))) fun x_5 =>
      .bnd (idx x_5 0) fun x_6 =>
      .bnd (idx levels2 x_6) fun x_7 =>
      .pure x_7))
noncomputable def seqs_after_F (rs0 : List (List Int)) (last1 : Int) (levels2 : List Int) (cs3 : List Int) (base4 : Int) : Option Int := (seqs_after_T rs0 last1 levels2 cs3 base4).run
def seqs_after_L : List (Nat × LoopAnn) := []
noncomputable def seqs_after_C : List (Nat × Callee) := [(27, .plain bidic_Isolate_fun)]
noncomputable def seqs_after_fun : Fun := ⟨[.sl (.sl (.int .i64)), .int .i64, .sl (.int .i64), .sl (.int .u8), .int .i64], [.v (.int .i64)], fun x => seqs_after_F x.1 x.2.1 x.2.2.1 x.2.2.2.1 x.2.2.2.2.1⟩
theorem seqs_after_ev (x : Tys.I [.sl (.sl (.int .i64)), .int .i64, .sl (.int .i64), .sl (.int .u8), .int .i64]) : evFun G0 (fun f => olook f seqs_after_C) ⟨[], [], [], [], [], []⟩ (fun i => olook i seqs_after_L) Try.f39 [.sl (.sl (.int .i64)), .int .i64, .sl (.int .i64), .sl (.int .u8), .int .i64] [.v (.int .i64)] x = seqs_after_T x.1 x.2.1 x.2.2.1 x.2.2.2.1 x.2.2.2.2.1 := by kernel_rfl
theorem seqs_after_ok : FunOk Try.prog 39 seqs_after_fun := evFun_ok mixed ctx0 (cons_calls (fb := .plain bidic_Isolate_fun) bidic_Isolate_ok (fun h => by cases h) (no_calls)) Try.func39 (by kernel_rfl) _ (fun x => congrArg Tr.run (seqs_after_ev x)) (by kernel_rfl) (by kernel_rfl)
/-! ### boustrophedon/seqs.Of -/
noncomputable def seqs_Of_L13 (levels0 : List Int) (cs1 : List Int) (base2 : Int) (rs7 : List (List Int)) (next8 : List Int) (joined9 : List Bool) (all10 : List (List Int × Int × Int × Int)) (first11 : Int) (places12 : List Int) (last13 : Int) (t31 : Int) (t32 : Int) : Tr (Lap (List Int × List Int × Int × List (List Int) × List Int × List Bool × (List (List Int × Int × Int × Int)) × Int × List Int × Int × Int × Int) (List Int × List Int × Int × List (List Int) × List Int × List Bool × (List (List Int × Int × Int × Int)) × Int × List Int × Int × Int × Int)) :=
  .bnd (idx next8 last13) fun x_7 =>
  .br (x_7 != (-1)) (
    .bnd (idx next8 last13) fun x_8 =>
    .bnd (idx joined9 x_8) fun x_9 =>
    .bnd (idx rs7 x_8) fun x_10 =>
    .bnd (app 17592186044416 places12 x_10) fun r_11 =>
    .pure (.next (levels0, cs1, base2, rs7, next8, joined9.set (Int.toNat x_8) true, all10, first11, r_11, x_8, t31, t32))) (
    .pure (.done (levels0, cs1, base2, rs7, next8, joined9, all10, first11, places12, last13, t31, t32)))
noncomputable def seqs_Of_L8 (levels0 : List Int) (cs1 : List Int) (base2 : Int) (rs7 : List (List Int)) (next8 : List Int) (joined9 : List Bool) (all10 : List (List Int × Int × Int × Int)) (t31 : Int) (t32 : Int) : Tr (Lap (List Int × List Int × Int × List (List Int) × List Int × List Bool × (List (List Int × Int × Int × Int)) × Int × Int) (List (List Int × Int × Int × Int))) :=
  .br (decide (t32 < t31)) (
    .bnd (idx joined9 t32) fun x_4 =>
    .br x_4 (
      .pure (.next (levels0, cs1, base2, rs7, next8, joined9, all10, t31, IntKind.i64.wrap (t32 + 1)))) (
      .bnd (idx rs7 t32) fun x_5 =>
      .bnd (slices_Clone___int_int__F x_5) fun c_6 =>
      .bnd (loopW (fun s => (seqs_Of_L13 s.1 s.2.1 s.2.2.1 s.2.2.2.1 s.2.2.2.2.1 s.2.2.2.2.2.1 s.2.2.2.2.2.2.1 s.2.2.2.2.2.2.2.1 s.2.2.2.2.2.2.2.2.1 s.2.2.2.2.2.2.2.2.2.1 s.2.2.2.2.2.2.2.2.2.2.1 s.2.2.2.2.2.2.2.2.2.2.2).run) (levels0, cs1, base2, rs7, next8, joined9, all10, t32, c_6, t32, t31, t32)) fun l_12 =>
      .bnd (idx l_12.2.2.2.2.2.2.2.2.1 0) fun x_13 =>
      .bnd (idx l_12.1 x_13) fun x_14 =>
      .bnd (seqs_before_F l_12.2.2.2.1 l_12.2.2.2.2.2.2.2.1 l_12.1 l_12.2.2.1) fun c_15 =>
      .bnd (seqs_direction_F (if c_15 > x_14 then c_15 else x_14)) fun c_16 =>
      .bnd (seqs_after_F l_12.2.2.2.1 l_12.2.2.2.2.2.2.2.2.2.1 l_12.1 l_12.2.1 l_12.2.2.1) fun c_17 =>
      .bnd (seqs_direction_F (if c_17 > x_14 then c_17 else x_14)) fun c_18 =>
      .bnd (app 3518437208883 l_12.2.2.2.2.2.2.1 ([(l_12.2.2.2.2.2.2.2.2.1, x_14, c_16, c_18)])) fun r_19 =>
      .pure (.next (l_12.1, l_12.2.1, l_12.2.2.1, l_12.2.2.2.1, l_12.2.2.2.2.1, l_12.2.2.2.2.2.1, r_19, l_12.2.2.2.2.2.2.2.2.2.2.1, IntKind.i64.wrap (l_12.2.2.2.2.2.2.2.2.2.2.2 + 1))))) (
    .pure (.done all10))
noncomputable def seqs_Of_T (levels0 : List Int) (cs1 : List Int) (base2 : Int) : Tr (List (List Int × Int × Int × Int)) :=
  .br ((levels0.length : Int) != (cs1.length : Int)) (
    .pure ([])) (
    .bnd (runs_Of_F levels0) fun c_1 =>
    .bnd (seqs_follow_F c_1 cs1) fun c_2 =>
    .bnd (mk 140737488355328 false (c_1.length : Int)) fun r_3 =>
    .bnd (loopW (fun s => (seqs_Of_L8 s.1 s.2.1 s.2.2.1 s.2.2.2.1 s.2.2.2.2.1 s.2.2.2.2.2.1 s.2.2.2.2.2.2.1 s.2.2.2.2.2.2.2.1 s.2.2.2.2.2.2.2.2).run) (levels0, cs1, base2, c_1, c_2, r_3, [], (c_1.length : Int), 0)) fun l_20 =>
    .pure l_20)
noncomputable def seqs_Of_F (levels0 : List Int) (cs1 : List Int) (base2 : Int) : Option (List (List Int × Int × Int × Int)) := (seqs_Of_T levels0 cs1 base2).run
def seqs_Of_L : List (Nat × LoopAnn) := [(13, { head := [.sv 0 false (.sl (.int .i64)), .sv 1 false (.sl (.int .u8)), .sv 2 false (.int .i64), .srow 7 1000007 29 true (.sl (.int .i64)), .srow 8 1000008 3 true (.int .i64), .srow 9 1000009 4 true .bool, .srow 10 1000010 41 true (.st (.pair (.sl (.int .i64)) (.pair (.int .i64) (.pair (.int .u8) (.int .u8))))), .sv 11 true (.int .i64), .srow 12 1000012 3 true (.int .i64), .sv 13 true (.int .i64), .sv 31 true (.int .i64), .sv 32 true (.int .i64)], xid := 2, out := [.sv 0 false (.sl (.int .i64)), .sv 1 false (.sl (.int .u8)), .sv 2 false (.int .i64), .srow 7 1000007 29 true (.sl (.int .i64)), .srow 8 1000008 3 true (.int .i64), .srow 9 1000009 4 true .bool, .srow 10 1000010 41 true (.st (.pair (.sl (.int .i64)) (.pair (.int .i64) (.pair (.int .u8) (.int .u8))))), .sv 11 true (.int .i64), .srow 12 1000012 3 true (.int .i64), .sv 13 true (.int .i64), .sv 31 true (.int .i64), .sv 32 true (.int .i64)], hasRet := false, res := [] }), (8, { head := [.sv 0 false (.sl (.int .i64)), .sv 1 false (.sl (.int .u8)), .sv 2 false (.int .i64), .srow 7 1000007 29 true (.sl (.int .i64)), .srow 8 1000008 3 true (.int .i64), .srow 9 1000009 4 true .bool, .srow 10 1000010 41 true (.st (.pair (.sl (.int .i64)) (.pair (.int .i64) (.pair (.int .u8) (.int .u8))))), .sv 31 true (.int .i64), .sv 32 true (.int .i64)], xid := 0, out := [.srow 10 1000010 41 true (.st (.pair (.sl (.int .i64)) (.pair (.int .i64) (.pair (.int .u8) (.int .u8)))))], hasRet := false, res := [] })]
noncomputable def seqs_Of_C : List (Nat × Callee) := [(34, .plain runs_Of_fun), (35, .plain seqs_follow_fun), (36, .plain slices_Clone___int_int__fun), (38, .plain seqs_before_fun), (37, .plain seqs_direction_fun), (39, .plain seqs_after_fun)]
noncomputable def seqs_Of_fun : Fun := ⟨[.sl (.int .i64), .sl (.int .u8), .int .i64], [.row 41 (.st (.pair (.sl (.int .i64)) (.pair (.int .i64) (.pair (.int .u8) (.int .u8)))))], fun x => seqs_Of_F x.1 x.2.1 x.2.2.1⟩
theorem seqs_Of_ev (x : Tys.I [.sl (.int .i64), .sl (.int .u8), .int .i64]) : evFun G0 (fun f => olook f seqs_Of_C) ⟨[], [], [], [], [], []⟩ (fun i => olook i seqs_Of_L) Try.f20 [.sl (.int .i64), .sl (.int .u8), .int .i64] [.row 41 (.st (.pair (.sl (.int .i64)) (.pair (.int .i64) (.pair (.int .u8) (.int .u8)))))] x = seqs_Of_T x.1 x.2.1 x.2.2.1 := by kernel_rfl
theorem seqs_Of_ok : FunOk Try.prog 20 seqs_Of_fun := evFun_ok mixed ctx0 (cons_calls (fb := .plain runs_Of_fun) runs_Of_ok (fun h => by cases h) (cons_calls (fb := .plain seqs_follow_fun) seqs_follow_ok (fun h => by cases h) (cons_calls (fb := .plain slices_Clone___int_int__fun) slices_Clone___int_int__ok (fun h => by cases h) (cons_calls (fb := .plain seqs_before_fun) seqs_before_ok (fun h => by cases h) (cons_calls (fb := .plain seqs_direction_fun) seqs_direction_ok (fun h => by cases h) (cons_calls (fb := .plain seqs_after_fun) seqs_after_ok (fun h => by cases h) (no_calls))))))) Try.func20 (by kernel_rfl) _ (fun x => congrArg Tr.run (seqs_Of_ev x)) (by kernel_rfl) (by kernel_rfl)
/-! ### boustrophedon/boustrophedonlaw13.awake -/
noncomputable def law13_awake_T : Tr Bool :=
  .bnd (seqs_Of_F ([0, 1, 0]) ([19, 1, 22]) 0) fun c_1 =>
  .br ((c_1.length : Int) == 2) (
    .bnd (idx c_1 0) fun x_2 =>
    .br ((x_2.1.length : Int) == 2) (
      .bnd (idx c_1 0) fun x_3 =>
      .bnd (idx x_3.1 1) fun x_4 =>
      .br (x_4 == 2) (
        .bnd (idx c_1 0) fun x_5 =>
        .br (x_5.2.1 == 0) (
          .bnd (idx c_1 0) fun x_6 =>
          .br (x_6.2.2.1 == 0) (
            .bnd (idx c_1 0) fun x_7 =>
            .br (x_7.2.2.2 == 0) (
              .bnd (idx c_1 1) fun x_8 =>
              .br ((x_8.1.length : Int) == 1) (
                .bnd (idx c_1 1) fun x_9 =>
                .br (x_9.2.1 == 1) (
                  .bnd (idx c_1 1) fun x_10 =>
                  .br (x_10.2.2.1 == 1) (
                    .bnd (idx c_1 1) fun x_11 =>
                    .pure (x_11.2.2.2 == 1)) (
                    .pure false)) (
                  .pure false)) (
                .pure false)) (
              .pure false)) (
            .pure false)) (
          .pure false)) (
        .pure false)) (
      .pure false)) (
    .pure false)
noncomputable def law13_awake_F : Option Bool := (law13_awake_T).run
def law13_awake_L : List (Nat × LoopAnn) := []
noncomputable def law13_awake_C : List (Nat × Callee) := [(20, .plain seqs_Of_fun)]
noncomputable def law13_awake_fun : Fun := ⟨[], [.v .bool], fun _ => law13_awake_F⟩
theorem law13_awake_ev (x : Tys.I []) : evFun G0 (fun f => olook f law13_awake_C) ⟨[], [], [], [], [], []⟩ (fun i => olook i law13_awake_L) Try.f17 [] [.v .bool] x = law13_awake_T := by kernel_rfl
theorem law13_awake_ok : FunOk Try.prog 17 law13_awake_fun := evFun_ok mixed ctx0 (cons_calls (fb := .plain seqs_Of_fun) seqs_Of_ok (fun h => by cases h) (no_calls)) Try.func17 (by kernel_rfl) _ (fun x => congrArg Tr.run (law13_awake_ev x)) (by kernel_rfl) (by kernel_rfl)
/-! ### boustrophedon/boustrophedonlaw13.class -/
noncomputable def law13_class_T (l0 : Int) : Tr Int :=
  .br ((l0.tmod 2) == 1) (
    .pure 1) (
    .pure 0)
noncomputable def law13_class_F (l0 : Int) : Option Int := (law13_class_T l0).run
def law13_class_L : List (Nat × LoopAnn) := []
noncomputable def law13_class_C : List (Nat × Callee) := []
noncomputable def law13_class_fun : Fun := ⟨[.int .i64], [.v (.int .u8)], fun x => law13_class_F x.1⟩
theorem law13_class_ev (x : Tys.I [.int .i64]) : evFun G0 (fun f => olook f law13_class_C) ⟨[], [], [], [], [], []⟩ (fun i => olook i law13_class_L) Try.f21 [.int .i64] [.v (.int .u8)] x = law13_class_T x.1 := by kernel_rfl
theorem law13_class_ok : FunOk Try.prog 21 law13_class_fun := evFun_ok mixed ctx0 (no_calls) Try.func21 (by kernel_rfl) _ (fun x => congrArg Tr.run (law13_class_ev x)) (by kernel_rfl) (by kernel_rfl)
/-! ### boustrophedon/boustrophedonlaw13.behind -/
noncomputable def law13_behind_L3 (levels0 : List Int) (at1 : Int) (l7 : Int) (k8 : Int) : Tr (Lap (List Int × Int × Int × Int) Int) :=
  .br (decide (k8 > at1)) (
    .bnd (idx levels0 k8) fun x_1 =>
    .br (x_1 != (-1)) (
      .bnd (idx levels0 k8) fun x_2 =>
      .pure (.next (levels0, at1, x_2, IntKind.i64.wrap (k8 - 1)))) (
      .pure (.next (levels0, at1, l7, IntKind.i64.wrap (k8 - 1))))) (
    .pure (.done l7))
noncomputable def law13_behind_T (levels0 : List Int) (at1 : Int) (base2 : Int) : Tr Int :=
  .bnd (loopW (fun s => (law13_behind_L3 s.1 s.2.1 s.2.2.1 s.2.2.2).run) (levels0, at1, base2, IntKind.i64.wrap ((levels0.length : Int) - 1))) fun l_3 =>
  .pure l_3
noncomputable def law13_behind_F (levels0 : List Int) (at1 : Int) (base2 : Int) : Option Int := (law13_behind_T levels0 at1 base2).run
def law13_behind_L : List (Nat × LoopAnn) := [(3, { head := [.sv 0 false (.sl (.int .i64)), .sv 1 false (.int .i64), .sv 7 false (.int .i64), .sv 8 true (.int .i64)], xid := 0, out := [.sv 7 false (.int .i64)], hasRet := false, res := [] })]
noncomputable def law13_behind_C : List (Nat × Callee) := []
noncomputable def law13_behind_fun : Fun := ⟨[.sl (.int .i64), .int .i64, .int .i64], [.v (.int .i64)], fun x => law13_behind_F x.1 x.2.1 x.2.2.1⟩
theorem law13_behind_ev (x : Tys.I [.sl (.int .i64), .int .i64, .int .i64]) : evFun G0 (fun f => olook f law13_behind_C) ⟨[], [], [], [], [], []⟩ (fun i => olook i law13_behind_L) Try.f50 [.sl (.int .i64), .int .i64, .int .i64] [.v (.int .i64)] x = law13_behind_T x.1 x.2.1 x.2.2.1 := by kernel_rfl
theorem law13_behind_ok : FunOk Try.prog 50 law13_behind_fun := evFun_ok mixed ctx0 (no_calls) Try.func50 (by kernel_rfl) _ (fun x => congrArg Tr.run (law13_behind_ev x)) (by kernel_rfl) (by kernel_rfl)
/-! ### boustrophedon/boustrophedonlaw13.ahead -/
noncomputable def law13_ahead_L3 (levels0 : List Int) (at1 : Int) (l7 : Int) (k8 : Int) : Tr (Lap (List Int × Int × Int × Int) Int) :=
  .br (decide (k8 < at1)) (
    .bnd (idx levels0 k8) fun x_1 =>
    .br (x_1 != (-1)) (
      .bnd (idx levels0 k8) fun x_2 =>
      .pure (.next (levels0, at1, x_2, IntKind.i64.wrap (k8 + 1)))) (
      .pure (.next (levels0, at1, l7, IntKind.i64.wrap (k8 + 1))))) (
    .pure (.done l7))
noncomputable def law13_ahead_T (levels0 : List Int) (at1 : Int) (base2 : Int) : Tr Int :=
  .bnd (loopW (fun s => (law13_ahead_L3 s.1 s.2.1 s.2.2.1 s.2.2.2).run) (levels0, at1, base2, 0)) fun l_3 =>
  .pure l_3
noncomputable def law13_ahead_F (levels0 : List Int) (at1 : Int) (base2 : Int) : Option Int := (law13_ahead_T levels0 at1 base2).run
def law13_ahead_L : List (Nat × LoopAnn) := [(3, { head := [.sv 0 false (.sl (.int .i64)), .sv 1 false (.int .i64), .sv 7 false (.int .i64), .sv 8 true (.int .i64)], xid := 0, out := [.sv 7 false (.int .i64)], hasRet := false, res := [] })]
noncomputable def law13_ahead_C : List (Nat × Callee) := []
noncomputable def law13_ahead_fun : Fun := ⟨[.sl (.int .i64), .int .i64, .int .i64], [.v (.int .i64)], fun x => law13_ahead_F x.1 x.2.1 x.2.2.1⟩
theorem law13_ahead_ev (x : Tys.I [.sl (.int .i64), .int .i64, .int .i64]) : evFun G0 (fun f => olook f law13_ahead_C) ⟨[], [], [], [], [], []⟩ (fun i => olook i law13_ahead_L) Try.f51 [.sl (.int .i64), .int .i64, .int .i64] [.v (.int .i64)] x = law13_ahead_T x.1 x.2.1 x.2.2.1 := by kernel_rfl
theorem law13_ahead_ok : FunOk Try.prog 51 law13_ahead_fun := evFun_ok mixed ctx0 (no_calls) Try.func51 (by kernel_rfl) _ (fun x => congrArg Tr.run (law13_ahead_ev x)) (by kernel_rfl) (by kernel_rfl)
/-! ### boustrophedon/boustrophedonlaw13.of -/
noncomputable def law13_of_L18 (levels0 : List Int) (cs1 : List Int) (base2 : Int) (m7 : List Int) (rs8 : List (List Int)) (out9 : List (List Int × Int × Int × Int)) (had10 : List Bool) (i11 : Int) (places12 : List Int) (r13 : Int) (end14 : Int) (k15 : Int) : Tr (Lap (List Int × List Int × Int × List Int × List (List Int) × (List (List Int × Int × Int × Int)) × List Bool × Int × List Int × Int × Int × Int) (List Int × List Int × Int × List Int × List (List Int) × (List (List Int × Int × Int × Int)) × List Bool × Int × List Int × Int)) :=
  .br (decide (k15 < (rs8.length : Int))) (
    .bnd (idx rs8 k15) fun x_14 =>
    .bnd (idx x_14 0) fun x_15 =>
    .bnd (idx m7 end14) fun x_16 =>
    .br (x_15 == x_16) (
      .pure (.next (levels0, cs1, base2, m7, rs8, out9, had10, i11, places12, k15, end14, IntKind.i64.wrap (k15 + 1)))) (
      .pure (.next (levels0, cs1, base2, m7, rs8, out9, had10, i11, places12, r13, end14, IntKind.i64.wrap (k15 + 1))))) (
    .pure (.done (levels0, cs1, base2, m7, rs8, out9, had10, i11, places12, r13)))
noncomputable def law13_of_L11 (levels0 : List Int) (cs1 : List Int) (base2 : Int) (m7 : List Int) (rs8 : List (List Int)) (out9 : List (List Int × Int × Int × Int)) (had10 : List Bool) (i11 : Int) (places12 : List Int) (r13 : Int) : Tr (Lap (List Int × List Int × Int × List Int × List (List Int) × (List (List Int × Int × Int × Int)) × List Bool × Int × List Int × Int) (List Int × List Int × Int × List Int × List (List Int) × (List (List Int × Int × Int × Int)) × List Bool × Int × List Int)) :=
  .br (decide (r13 ≥ 0)) (
    .bnd (idx rs8 r13) fun x_5 =>
    .bnd (app 17592186044416 places12 x_5) fun r_6 =>
    .bnd (idx had10 r13) fun x_7 =>
    .bnd (idx rs8 r13) fun x_8 =>
    .bnd (idx rs8 r13) fun x_9 =>
    .bnd (idx x_8 (IntKind.i64.wrap ((x_9.length : Int) - 1))) fun x_10 =>
    .bnd (idx cs1 x_10) fun x_11 =>
    .bnd (bidic_Isolate_F x_11) fun c_12 =>
    .br c_12 (
      .bnd (idx m7 x_10) fun x_13 =>
      .br (x_13 != (-1)) (
        .bnd (loopW (fun s => (law13_of_L18 s.1 s.2.1 s.2.2.1 s.2.2.2.1 s.2.2.2.2.1 s.2.2.2.2.2.1 s.2.2.2.2.2.2.1 s.2.2.2.2.2.2.2.1 s.2.2.2.2.2.2.2.2.1 s.2.2.2.2.2.2.2.2.2.1 s.2.2.2.2.2.2.2.2.2.2.1 s.2.2.2.2.2.2.2.2.2.2.2).run) (levels0, cs1, base2, m7, rs8, out9, had10.set (Int.toNat r13) true, i11, r_6, (-1), x_10, 0)) fun l_17 =>
        .pure (.next (l_17.1, l_17.2.1, l_17.2.2.1, l_17.2.2.2.1, l_17.2.2.2.2.1, l_17.2.2.2.2.2.1, l_17.2.2.2.2.2.2.1, l_17.2.2.2.2.2.2.2.1, l_17.2.2.2.2.2.2.2.2.1, l_17.2.2.2.2.2.2.2.2.2))) (
        .pure (.next (levels0, cs1, base2, m7, rs8, out9, had10.set (Int.toNat r13) true, i11, r_6, (-1))))) (
      .pure (.next (levels0, cs1, base2, m7, rs8, out9, had10.set (Int.toNat r13) true, i11, r_6, (-1))))) (
    .pure (.done (levels0, cs1, base2, m7, rs8, out9, had10, i11, places12)))
noncomputable def law13_of_L6 (levels0 : List Int) (cs1 : List Int) (base2 : Int) (m7 : List Int) (rs8 : List (List Int)) (out9 : List (List Int × Int × Int × Int)) (had10 : List Bool) (i11 : Int) : Tr (Lap (List Int × List Int × Int × List Int × List (List Int) × (List (List Int × Int × Int × Int)) × List Bool × Int) (List (List Int × Int × Int × Int))) :=
  .br (decide (i11 < (rs8.length : Int))) (
    .bnd (idx had10 i11) fun x_4 =>
    .br x_4 (
      .pure (.next (levels0, cs1, base2, m7, rs8, out9, had10, IntKind.i64.wrap (i11 + 1)))) (
      .bnd (loopW (fun s => (law13_of_L11 s.1 s.2.1 s.2.2.1 s.2.2.2.1 s.2.2.2.2.1 s.2.2.2.2.2.1 s.2.2.2.2.2.2.1 s.2.2.2.2.2.2.2.1 s.2.2.2.2.2.2.2.2.1 s.2.2.2.2.2.2.2.2.2).run) (levels0, cs1, base2, m7, rs8, out9, had10, i11, [], i11)) fun l_18 =>
      .bnd (idx l_18.2.2.2.2.2.2.2.2 (IntKind.i64.wrap ((l_18.2.2.2.2.2.2.2.2.length : Int) - 1))) fun x_19 =>
      .bnd (idx l_18.2.2.2.2.2.2.2.2 0) fun x_20 =>
      .bnd (idx l_18.1 x_20) fun x_21 =>
      .bnd (law13_behind_F l_18.1 x_19 l_18.2.2.1) fun c_22 =>
      .bnd (idx l_18.2.1 x_19) fun x_23 =>
      .bnd (bidic_Isolate_F x_23) fun c_24 =>
      .br c_24 (
        .bnd (idx l_18.2.2.2.2.2.2.2.2 0) fun x_25 =>
        .bnd (law13_ahead_F l_18.1 x_25 l_18.2.2.1) fun c_26 =>
        .bnd (law13_class_F (if c_26 > x_21 then c_26 else x_21)) fun c_27 =>
        .bnd (law13_class_F (if l_18.2.2.1 > x_21 then l_18.2.2.1 else x_21)) fun c_28 =>
        .bnd (app 3518437208883 l_18.2.2.2.2.2.1 ([(l_18.2.2.2.2.2.2.2.2, x_21, c_27, c_28)])) fun r_29 =>
        .pure (.next (l_18.1, l_18.2.1, l_18.2.2.1, l_18.2.2.2.1, l_18.2.2.2.2.1, r_29, l_18.2.2.2.2.2.2.1, IntKind.i64.wrap (l_18.2.2.2.2.2.2.2.1 + 1)))) (
        .bnd (idx l_18.2.2.2.2.2.2.2.2 0) fun x_30 =>
        .bnd (law13_ahead_F l_18.1 x_30 l_18.2.2.1) fun c_31 =>
        .bnd (law13_class_F (if c_31 > x_21 then c_31 else x_21)) fun c_32 =>
        .bnd (law13_class_F (if c_22 > x_21 then c_22 else x_21)) fun c_33 =>
        .bnd (app 3518437208883 l_18.2.2.2.2.2.1 ([(l_18.2.2.2.2.2.2.2.2, x_21, c_32, c_33)])) fun r_34 =>
        .pure (.next (l_18.1, l_18.2.1, l_18.2.2.1, l_18.2.2.2.1, l_18.2.2.2.2.1, r_34, l_18.2.2.2.2.2.2.1, IntKind.i64.wrap (l_18.2.2.2.2.2.2.2.1 + 1)))))) (
    .pure (.done out9))
noncomputable def law13_of_T (levels0 : List Int) (cs1 : List Int) (base2 : Int) : Tr (List (List Int × Int × Int × Int)) :=
  .bnd (isolate_Match_F cs1) fun c_1 =>
  .bnd (runs_Of_F levels0) fun c_2 =>
  .bnd (mk 140737488355328 false (c_2.length : Int)) fun r_3 =>
  .bnd (loopW (fun s => (law13_of_L6 s.1 s.2.1 s.2.2.1 s.2.2.2.1 s.2.2.2.2.1 s.2.2.2.2.2.1 s.2.2.2.2.2.2.1 s.2.2.2.2.2.2.2).run) (levels0, cs1, base2, c_1, c_2, [], r_3, 0)) fun l_35 =>
  .pure l_35
noncomputable def law13_of_F (levels0 : List Int) (cs1 : List Int) (base2 : Int) : Option (List (List Int × Int × Int × Int)) := (law13_of_T levels0 cs1 base2).run
def law13_of_L : List (Nat × LoopAnn) := [(18, { head := [.sv 0 false (.sl (.int .i64)), .sv 1 false (.sl (.int .u8)), .sv 2 false (.int .i64), .srow 7 1000007 3 true (.int .i64), .srow 8 1000008 29 true (.sl (.int .i64)), .srow 9 1000009 41 true (.st (.pair (.sl (.int .i64)) (.pair (.int .i64) (.pair (.int .u8) (.int .u8))))), .srow 10 1000010 4 true .bool, .sv 11 true (.int .i64), .srow 12 1000012 3 true (.int .i64), .sv 13 true (.int .i64), .sv 14 true (.int .i64), .sv 15 true (.int .i64)], xid := 4, out := [.sv 0 false (.sl (.int .i64)), .sv 1 false (.sl (.int .u8)), .sv 2 false (.int .i64), .srow 7 1000007 3 true (.int .i64), .srow 8 1000008 29 true (.sl (.int .i64)), .srow 9 1000009 41 true (.st (.pair (.sl (.int .i64)) (.pair (.int .i64) (.pair (.int .u8) (.int .u8))))), .srow 10 1000010 4 true .bool, .sv 11 true (.int .i64), .srow 12 1000012 3 true (.int .i64), .sv 13 true (.int .i64)], hasRet := false, res := [] }), (11, { head := [.sv 0 false (.sl (.int .i64)), .sv 1 false (.sl (.int .u8)), .sv 2 false (.int .i64), .srow 7 1000007 3 true (.int .i64), .srow 8 1000008 29 true (.sl (.int .i64)), .srow 9 1000009 41 true (.st (.pair (.sl (.int .i64)) (.pair (.int .i64) (.pair (.int .u8) (.int .u8))))), .srow 10 1000010 4 true .bool, .sv 11 true (.int .i64), .srow 12 1000012 3 true (.int .i64), .sv 13 true (.int .i64)], xid := 2, out := [.sv 0 false (.sl (.int .i64)), .sv 1 false (.sl (.int .u8)), .sv 2 false (.int .i64), .srow 7 1000007 3 true (.int .i64), .srow 8 1000008 29 true (.sl (.int .i64)), .srow 9 1000009 41 true (.st (.pair (.sl (.int .i64)) (.pair (.int .i64) (.pair (.int .u8) (.int .u8))))), .srow 10 1000010 4 true .bool, .sv 11 true (.int .i64), .srow 12 1000012 3 true (.int .i64)], hasRet := false, res := [] }), (6, { head := [.sv 0 false (.sl (.int .i64)), .sv 1 false (.sl (.int .u8)), .sv 2 false (.int .i64), .srow 7 1000007 3 true (.int .i64), .srow 8 1000008 29 true (.sl (.int .i64)), .srow 9 1000009 41 true (.st (.pair (.sl (.int .i64)) (.pair (.int .i64) (.pair (.int .u8) (.int .u8))))), .srow 10 1000010 4 true .bool, .sv 11 true (.int .i64)], xid := 0, out := [.srow 9 1000009 41 true (.st (.pair (.sl (.int .i64)) (.pair (.int .i64) (.pair (.int .u8) (.int .u8)))))], hasRet := false, res := [] })]
noncomputable def law13_of_C : List (Nat × Callee) := [(49, .plain isolate_Match_fun), (34, .plain runs_Of_fun), (27, .plain bidic_Isolate_fun), (50, .plain law13_behind_fun), (51, .plain law13_ahead_fun), (21, .plain law13_class_fun)]
noncomputable def law13_of_fun : Fun := ⟨[.sl (.int .i64), .sl (.int .u8), .int .i64], [.row 41 (.st (.pair (.sl (.int .i64)) (.pair (.int .i64) (.pair (.int .u8) (.int .u8)))))], fun x => law13_of_F x.1 x.2.1 x.2.2.1⟩
theorem law13_of_ev (x : Tys.I [.sl (.int .i64), .sl (.int .u8), .int .i64]) : evFun G0 (fun f => olook f law13_of_C) ⟨[], [], [], [], [], []⟩ (fun i => olook i law13_of_L) Try.f33 [.sl (.int .i64), .sl (.int .u8), .int .i64] [.row 41 (.st (.pair (.sl (.int .i64)) (.pair (.int .i64) (.pair (.int .u8) (.int .u8)))))] x = law13_of_T x.1 x.2.1 x.2.2.1 := by kernel_rfl
theorem law13_of_ok : FunOk Try.prog 33 law13_of_fun := evFun_ok mixed ctx0 (cons_calls (fb := .plain isolate_Match_fun) isolate_Match_ok (fun h => by cases h) (cons_calls (fb := .plain runs_Of_fun) runs_Of_ok (fun h => by cases h) (cons_calls (fb := .plain bidic_Isolate_fun) bidic_Isolate_ok (fun h => by cases h) (cons_calls (fb := .plain law13_behind_fun) law13_behind_ok (fun h => by cases h) (cons_calls (fb := .plain law13_ahead_fun) law13_ahead_ok (fun h => by cases h) (cons_calls (fb := .plain law13_class_fun) law13_class_ok (fun h => by cases h) (no_calls))))))) Try.func33 (by kernel_rfl) _ (fun x => congrArg Tr.run (law13_of_ev x)) (by kernel_rfl) (by kernel_rfl)
/-! ### boustrophedon/boustrophedonlaw13.like -/
noncomputable def law13_like_L10 (a7 : List (List Int × Int × Int × Int)) (b8 : List (List Int × Int × Int × Int)) (k9 : Int) (i10 : Int) : Tr (Lap ((List (List Int × Int × Int × Int)) × (List (List Int × Int × Int × Int)) × Int × Int) (Sum ((List (List Int × Int × Int × Int)) × (List (List Int × Int × Int × Int)) × Int) Bool)) :=
  .bnd (idx a7 k9) fun x_11 =>
  .br (decide (i10 < (x_11.1.length : Int))) (
    .bnd (idx a7 k9) fun x_12 =>
    .bnd (idx x_12.1 i10) fun x_13 =>
    .bnd (idx b8 k9) fun x_14 =>
    .bnd (idx x_14.1 i10) fun x_15 =>
    .br (x_13 != x_15) (
      .pure (.done (.inr false))) (
      .pure (.next (a7, b8, k9, IntKind.i64.wrap (i10 + 1))))) (
    .pure (.done (.inl (a7, b8, k9))))
noncomputable def law13_like_L5 (a7 : List (List Int × Int × Int × Int)) (b8 : List (List Int × Int × Int × Int)) (k9 : Int) : Tr (Lap ((List (List Int × Int × Int × Int)) × (List (List Int × Int × Int × Int)) × Int) (Sum Unit Bool)) :=
  .br (decide (k9 < (a7.length : Int))) (
    .bnd (idx a7 k9) fun x_3 =>
    .bnd (idx b8 k9) fun x_4 =>
    .br (x_3.2.1 != x_4.2.1) (
      .pure (.done (.inr false))) (
      .bnd (idx a7 k9) fun x_5 =>
      .bnd (idx b8 k9) fun x_6 =>
      .br (x_5.2.2.1 != x_6.2.2.1) (
        .pure (.done (.inr false))) (
        .bnd (idx a7 k9) fun x_7 =>
        .bnd (idx b8 k9) fun x_8 =>
        .br (x_7.2.2.2 != x_8.2.2.2) (
          .pure (.done (.inr false))) (
          .bnd (idx a7 k9) fun x_9 =>
          .bnd (idx b8 k9) fun x_10 =>
          .br ((x_9.1.length : Int) != (x_10.1.length : Int)) (
            .pure (.done (.inr false))) (
            .alt (loopW (fun s => (law13_like_L10 s.1 s.2.1 s.2.2.1 s.2.2.2).run) (a7, b8, k9, 0)) (fun l_16 =>
              .pure (.next (l_16.1, l_16.2.1, IntKind.i64.wrap (l_16.2.2 + 1)))) (fun l_17 =>
              .pure (.done (.inr l_17)))))))) (
    .pure (.done (.inl ())))
noncomputable def law13_like_T (levels0 : List Int) (cs1 : List Int) (base2 : Int) : Tr Bool :=
  .bnd (seqs_Of_F levels0 cs1 base2) fun c_1 =>
  .bnd (law13_of_F levels0 cs1 base2) fun c_2 =>
  .br ((c_1.length : Int) != (c_2.length : Int)) (
    .pure false) (
    .alt (loopW (fun s => (law13_like_L5 s.1 s.2.1 s.2.2).run) (c_1, c_2, 0)) (fun l_18 =>
      .pure true) (fun l_19 =>
      .pure l_19))
noncomputable def law13_like_F (levels0 : List Int) (cs1 : List Int) (base2 : Int) : Option Bool := (law13_like_T levels0 cs1 base2).run
def law13_like_L : List (Nat × LoopAnn) := [(10, { head := [.srow 7 1000007 41 true (.st (.pair (.sl (.int .i64)) (.pair (.int .i64) (.pair (.int .u8) (.int .u8))))), .srow 8 1000008 41 true (.st (.pair (.sl (.int .i64)) (.pair (.int .i64) (.pair (.int .u8) (.int .u8))))), .sv 9 true (.int .i64), .sv 10 true (.int .i64)], xid := 2, out := [.srow 7 1000007 41 true (.st (.pair (.sl (.int .i64)) (.pair (.int .i64) (.pair (.int .u8) (.int .u8))))), .srow 8 1000008 41 true (.st (.pair (.sl (.int .i64)) (.pair (.int .i64) (.pair (.int .u8) (.int .u8))))), .sv 9 true (.int .i64)], hasRet := true, res := [.sv 6 true .bool] }), (5, { head := [.srow 7 1000007 41 true (.st (.pair (.sl (.int .i64)) (.pair (.int .i64) (.pair (.int .u8) (.int .u8))))), .srow 8 1000008 41 true (.st (.pair (.sl (.int .i64)) (.pair (.int .i64) (.pair (.int .u8) (.int .u8))))), .sv 9 true (.int .i64)], xid := 0, out := [], hasRet := true, res := [.sv 6 true .bool] })]
noncomputable def law13_like_C : List (Nat × Callee) := [(20, .plain seqs_Of_fun), (33, .plain law13_of_fun)]
noncomputable def law13_like_fun : Fun := ⟨[.sl (.int .i64), .sl (.int .u8), .int .i64], [.v .bool], fun x => law13_like_F x.1 x.2.1 x.2.2.1⟩
theorem law13_like_ev (x : Tys.I [.sl (.int .i64), .sl (.int .u8), .int .i64]) : evFun G0 (fun f => olook f law13_like_C) ⟨[], [], [], [], [], []⟩ (fun i => olook i law13_like_L) Try.f18 [.sl (.int .i64), .sl (.int .u8), .int .i64] [.v .bool] x = law13_like_T x.1 x.2.1 x.2.2.1 := by kernel_rfl
theorem law13_like_ok : FunOk Try.prog 18 law13_like_fun := evFun_ok mixed ctx0 (cons_calls (fb := .plain seqs_Of_fun) seqs_Of_ok (fun h => by cases h) (cons_calls (fb := .plain law13_of_fun) law13_of_ok (fun h => by cases h) (no_calls))) Try.func18 (by kernel_rfl) _ (fun x => congrArg Tr.run (law13_like_ev x)) (by kernel_rfl) (by kernel_rfl)
/-! ### boustrophedon/boustrophedonlaw13.SeqsJoin -/
noncomputable def law13_SeqsJoin_T (ns0 : List Int) (level1 : Int) : Tr Bool :=
  .bnd law13_awake_F fun c_1 =>
  .br (!c_1) (
    .pure false) (
    .bnd (law08_Classes_F ns0) fun c_2 =>
    .bnd (explicit_Resolve_F c_2 (IntKind.i64.wrap (level1.tmod 2))) fun c_3 =>
    .bnd (law13_like_F c_3.1 c_2 (IntKind.i64.wrap (level1.tmod 2))) fun c_4 =>
    .pure c_4)
noncomputable def law13_SeqsJoin_F (ns0 : List Int) (level1 : Int) : Option Bool := (law13_SeqsJoin_T ns0 level1).run
def law13_SeqsJoin_L : List (Nat × LoopAnn) := []
noncomputable def law13_SeqsJoin_C : List (Nat × Callee) := [(17, .plain law13_awake_fun), (14, .plain law08_Classes_fun), (15, .plain explicit_Resolve_fun), (18, .plain law13_like_fun)]
noncomputable def law13_SeqsJoin_fun : Fun := ⟨[.sl (.int .u8), .int .u8], [.v .bool], fun x => law13_SeqsJoin_F x.1 x.2.1⟩
theorem law13_SeqsJoin_ev (x : Tys.I [.sl (.int .u8), .int .u8]) : evFun G0 (fun f => olook f law13_SeqsJoin_C) ⟨[], [], [], [], [], []⟩ (fun i => olook i law13_SeqsJoin_L) Try.f9 [.sl (.int .u8), .int .u8] [.v .bool] x = law13_SeqsJoin_T x.1 x.2.1 := by kernel_rfl
theorem law13_SeqsJoin_ok : FunOk Try.prog 9 law13_SeqsJoin_fun := evFun_ok mixed ctx0 (cons_calls (fb := .plain law13_awake_fun) law13_awake_ok (fun h => by cases h) (cons_calls (fb := .plain law08_Classes_fun) law08_Classes_ok (fun h => by cases h) (cons_calls (fb := .plain explicit_Resolve_fun) explicit_Resolve_ok (fun h => by cases h) (cons_calls (fb := .plain law13_like_fun) law13_like_ok (fun h => by cases h) (no_calls))))) Try.func9 (by kernel_rfl) _ (fun x => congrArg Tr.run (law13_SeqsJoin_ev x)) (by kernel_rfl) (by kernel_rfl)
/-! ### boustrophedon/boustrophedonlaw12.Levels -/
noncomputable def law12_Levels_L3 (ns0 : List Int) (out3 : List Int) (k4 : Int) : Tr (Lap (List Int × List Int × Int) (List Int)) :=
  .br (decide (k4 < (ns0.length : Int))) (
    .bnd (idx ns0 k4) fun x_1 =>
    .br ((x_1.tmod 8) == 7) (
      .bnd (app 17592186044416 out3 ([(-1)])) fun r_2 =>
      .pure (.next (ns0, r_2, IntKind.i64.wrap (k4 + 1)))) (
      .bnd (idx ns0 k4) fun x_3 =>
      .bnd (app 17592186044416 out3 ([(IntKind.i64.wrap (IntKind.u8.wrap (x_3.tdiv 8))).tmod 6])) fun r_4 =>
      .pure (.next (ns0, r_4, IntKind.i64.wrap (k4 + 1))))) (
    .pure (.done out3))
noncomputable def law12_Levels_T (ns0 : List Int) : Tr (List Int) :=
  .bnd (loopW (fun s => (law12_Levels_L3 s.1 s.2.1 s.2.2).run) (ns0, [], 0)) fun l_5 =>
  .pure l_5
noncomputable def law12_Levels_F (ns0 : List Int) : Option (List Int) := (law12_Levels_T ns0).run
def law12_Levels_L : List (Nat × LoopAnn) := [(3, { head := [.sv 0 false (.sl (.int .u8)), .srow 3 1000003 3 true (.int .i64), .sv 4 true (.int .i64)], xid := 0, out := [.srow 3 1000003 3 true (.int .i64)], hasRet := false, res := [] })]
noncomputable def law12_Levels_C : List (Nat × Callee) := []
noncomputable def law12_Levels_fun : Fun := ⟨[.sl (.int .u8)], [.row 3 (.int .i64)], fun x => law12_Levels_F x.1⟩
theorem law12_Levels_ev (x : Tys.I [.sl (.int .u8)]) : evFun G0 (fun f => olook f law12_Levels_C) ⟨[], [], [], [], [], []⟩ (fun i => olook i law12_Levels_L) Try.f19 [.sl (.int .u8)] [.row 3 (.int .i64)] x = law12_Levels_T x.1 := by kernel_rfl
theorem law12_Levels_ok : FunOk Try.prog 19 law12_Levels_fun := evFun_ok mixed ctx0 (no_calls) Try.func19 (by kernel_rfl) _ (fun x => congrArg Tr.run (law12_Levels_ev x)) (by kernel_rfl) (by kernel_rfl)
/-! ### boustrophedon/boustrophedonlaw13.SeqsRaw -/
noncomputable def law13_SeqsRaw_T (ns0 : List Int) (ms1 : List Int) (base2 : Int) : Tr Bool :=
  .bnd law13_awake_F fun c_1 =>
  .br (!c_1) (
    .pure false) (
    .bnd (law12_Levels_F ns0) fun c_2 =>
    .bnd (law08_Classes_F ms1) fun c_3 =>
    .br ((c_2.length : Int) != (c_3.length : Int)) (
      .bnd (seqs_Of_F c_2 c_3 (IntKind.i64.wrap base2)) fun c_4 =>
      .br ((c_4.length : Int) != 0) (
        .pure false) (
        .bnd (cut c_2 0 (if (c_3.length : Int) < (c_2.length : Int) then (c_3.length : Int) else (c_2.length : Int))) fun r_5 =>
        .bnd (cut c_3 0 (if (c_3.length : Int) < (c_2.length : Int) then (c_3.length : Int) else (c_2.length : Int))) fun r_6 =>
        .bnd (law13_like_F r_5 r_6 (IntKind.i64.wrap (base2.tmod 126))) fun c_7 =>
        .pure c_7)) (
      .bnd (cut c_2 0 (if (c_3.length : Int) < (c_2.length : Int) then (c_3.length : Int) else (c_2.length : Int))) fun r_8 =>
      .bnd (cut c_3 0 (if (c_3.length : Int) < (c_2.length : Int) then (c_3.length : Int) else (c_2.length : Int))) fun r_9 =>
      .bnd (law13_like_F r_8 r_9 (IntKind.i64.wrap (base2.tmod 126))) fun c_10 =>
      .pure c_10))
noncomputable def law13_SeqsRaw_F (ns0 : List Int) (ms1 : List Int) (base2 : Int) : Option Bool := (law13_SeqsRaw_T ns0 ms1 base2).run
def law13_SeqsRaw_L : List (Nat × LoopAnn) := []
noncomputable def law13_SeqsRaw_C : List (Nat × Callee) := [(17, .plain law13_awake_fun), (19, .plain law12_Levels_fun), (14, .plain law08_Classes_fun), (20, .plain seqs_Of_fun), (18, .plain law13_like_fun)]
noncomputable def law13_SeqsRaw_fun : Fun := ⟨[.sl (.int .u8), .sl (.int .u8), .int .u8], [.v .bool], fun x => law13_SeqsRaw_F x.1 x.2.1 x.2.2.1⟩
theorem law13_SeqsRaw_ev (x : Tys.I [.sl (.int .u8), .sl (.int .u8), .int .u8]) : evFun G0 (fun f => olook f law13_SeqsRaw_C) ⟨[], [], [], [], [], []⟩ (fun i => olook i law13_SeqsRaw_L) Try.f10 [.sl (.int .u8), .sl (.int .u8), .int .u8] [.v .bool] x = law13_SeqsRaw_T x.1 x.2.1 x.2.2.1 := by kernel_rfl
theorem law13_SeqsRaw_ok : FunOk Try.prog 10 law13_SeqsRaw_fun := evFun_ok mixed ctx0 (cons_calls (fb := .plain law13_awake_fun) law13_awake_ok (fun h => by cases h) (cons_calls (fb := .plain law12_Levels_fun) law12_Levels_ok (fun h => by cases h) (cons_calls (fb := .plain law08_Classes_fun) law08_Classes_ok (fun h => by cases h) (cons_calls (fb := .plain seqs_Of_fun) seqs_Of_ok (fun h => by cases h) (cons_calls (fb := .plain law13_like_fun) law13_like_ok (fun h => by cases h) (no_calls)))))) Try.func10 (by kernel_rfl) _ (fun x => congrArg Tr.run (law13_SeqsRaw_ev x)) (by kernel_rfl) (by kernel_rfl)
/-! ### boustrophedon/boustrophedonlaw13.SeqsSides -/
noncomputable def law13_SeqsSides_L5 (level1 : Int) (cs5 : List Int) (t18 : List Int) (t19 : Int) (t20 : Int) : Tr (Lap (Int × List Int × List Int × Int × Int) (Int × List Int)) :=
  .br (decide (t20 < t19)) (
    .bnd (idx t18 t20) fun x_3 =>
    .br (decide (x_3 < 14)) (
      .bnd (app 140737488355328 cs5 ([x_3])) fun r_4 =>
      .pure (.next (level1, r_4, t18, t19, IntKind.i64.wrap (t20 + 1)))) (
      .pure (.next (level1, cs5, t18, t19, IntKind.i64.wrap (t20 + 1))))) (
    .pure (.done (level1, cs5)))
noncomputable def law13_SeqsSides_L15 (base8 : Int) (l11 : List (List Int × Int × Int × Int)) (kept12 : Int) (t44 : List Int) (t45 : Int) (t46 : Int) : Tr (Lap (Int × (List (List Int × Int × Int × Int)) × Int × List Int × Int × Int) (Int × (List (List Int × Int × Int × Int)) × Int)) :=
  .br (decide (t46 < t45)) (
    .bnd (idx t44 t46) fun x_8 =>
    .br (x_8 != (-1)) (
      .pure (.next (base8, l11, IntKind.i64.wrap (kept12 + 1), t44, t45, IntKind.i64.wrap (t46 + 1)))) (
      .pure (.next (base8, l11, kept12, t44, t45, IntKind.i64.wrap (t46 + 1))))) (
    .pure (.done (base8, l11, kept12)))
noncomputable def law13_SeqsSides_T (ns0 : List Int) (level1 : Int) : Tr Bool :=
  .bnd law13_awake_F fun c_1 =>
  .br (!c_1) (
    .pure false) (
    .bnd (law08_Classes_F ns0) fun c_2 =>
    .bnd (loopW (fun s => (law13_SeqsSides_L5 s.1 s.2.1 s.2.2.1 s.2.2.2.1 s.2.2.2.2).run) (level1, [], c_2, (c_2.length : Int), 0)) fun l_5 =>
    .bnd (explicit_Resolve_F l_5.2 (IntKind.i64.wrap (l_5.1.tmod 2))) fun c_6 =>
    .bnd (seqs_Of_F c_6.1 l_5.2 (IntKind.i64.wrap (l_5.1.tmod 2))) fun c_7 =>
    .bnd (loopW (fun s => (law13_SeqsSides_L15 s.1 s.2.1 s.2.2.1 s.2.2.2.1 s.2.2.2.2.1 s.2.2.2.2.2).run) (IntKind.i64.wrap (l_5.1.tmod 2), c_7, 0, c_6.1, (c_6.1.length : Int), 0)) fun l_9 =>
    .br (l_9.2.2 == 0) (
      .pure ((l_9.2.1.length : Int) == 0)) (
      .br ((l_9.2.1.length : Int) == 1) (
        .bnd (idx l_9.2.1 0) fun x_10 =>
        .br ((x_10.1.length : Int) == l_9.2.2) (
          .bnd (idx l_9.2.1 0) fun x_11 =>
          .bnd (law13_class_F l_9.1) fun c_12 =>
          .br (x_11.2.2.1 == c_12) (
            .bnd (idx l_9.2.1 0) fun x_13 =>
            .bnd (law13_class_F l_9.1) fun c_14 =>
            .pure (x_13.2.2.2 == c_14)) (
            .pure false)) (
          .pure false)) (
        .pure false)))
noncomputable def law13_SeqsSides_F (ns0 : List Int) (level1 : Int) : Option Bool := (law13_SeqsSides_T ns0 level1).run
def law13_SeqsSides_L : List (Nat × LoopAnn) := [(5, { head := [.sv 1 false (.int .u8), .srow 5 1000005 33 true (.int .u8), .srow 18 1000018 33 true (.int .u8), .sv 19 true (.int .i64), .sv 20 true (.int .i64)], xid := 0, out := [.sv 1 false (.int .u8), .srow 5 1000005 33 true (.int .u8)], hasRet := false, res := [] }), (15, { head := [.sv 8 true (.int .i64), .srow 11 1000011 41 true (.st (.pair (.sl (.int .i64)) (.pair (.int .i64) (.pair (.int .u8) (.int .u8))))), .sv 12 true (.int .i64), .srow 44 1000044 3 true (.int .i64), .sv 45 true (.int .i64), .sv 46 true (.int .i64)], xid := 2, out := [.sv 8 true (.int .i64), .srow 11 1000011 41 true (.st (.pair (.sl (.int .i64)) (.pair (.int .i64) (.pair (.int .u8) (.int .u8))))), .sv 12 true (.int .i64)], hasRet := false, res := [] })]
noncomputable def law13_SeqsSides_C : List (Nat × Callee) := [(17, .plain law13_awake_fun), (14, .plain law08_Classes_fun), (15, .plain explicit_Resolve_fun), (20, .plain seqs_Of_fun), (21, .plain law13_class_fun)]
noncomputable def law13_SeqsSides_fun : Fun := ⟨[.sl (.int .u8), .int .u8], [.v .bool], fun x => law13_SeqsSides_F x.1 x.2.1⟩
theorem law13_SeqsSides_ev (x : Tys.I [.sl (.int .u8), .int .u8]) : evFun G0 (fun f => olook f law13_SeqsSides_C) ⟨[], [], [], [], [], []⟩ (fun i => olook i law13_SeqsSides_L) Try.f11 [.sl (.int .u8), .int .u8] [.v .bool] x = law13_SeqsSides_T x.1 x.2.1 := by kernel_rfl
theorem law13_SeqsSides_ok : FunOk Try.prog 11 law13_SeqsSides_fun := evFun_ok mixed ctx0 (cons_calls (fb := .plain law13_awake_fun) law13_awake_ok (fun h => by cases h) (cons_calls (fb := .plain law08_Classes_fun) law08_Classes_ok (fun h => by cases h) (cons_calls (fb := .plain explicit_Resolve_fun) explicit_Resolve_ok (fun h => by cases h) (cons_calls (fb := .plain seqs_Of_fun) seqs_Of_ok (fun h => by cases h) (cons_calls (fb := .plain law13_class_fun) law13_class_ok (fun h => by cases h) (no_calls)))))) Try.func11 (by kernel_rfl) _ (fun x => congrArg Tr.run (law13_SeqsSides_ev x)) (by kernel_rfl) (by kernel_rfl)
end Go.Proofs.Ytjiehphakabflaa
