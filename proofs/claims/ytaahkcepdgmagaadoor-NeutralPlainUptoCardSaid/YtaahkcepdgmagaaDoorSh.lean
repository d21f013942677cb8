/-
  The plain readings of the functions of this seat, by program; each is tied to the loaded function.
-/
import Derived.Test.YtaahkcepdgmagaaDoorEvErr
import Derived.Test.YtaahkcepdgmagaaDoorChecked
namespace Go.Proofs.YtaahkcepdgmagaaDoor
set_option maxRecDepth 100000
set_option linter.unusedVariables false

def G0 : Ctx := { ty := [(3, .int .i64), (4, .bool), (5, .int .u8), (21, .int .i32), (22, .sl (.int .i32)), (23, .sl (.int .u8)), (25, .sl (.int .u8)), (28, .int .u8), (30, .sl (.int .i64)), (32, .sl (.arr 2 (.int .i64))), (46, .arr 2 (.int .i64)), (53, .sl (.st (.pair (.int .i64) (.int .i64)))), (56, .st (.pair (.int .i64) (.int .i64))), (64, .sl (.st (.pair (.int .i64) (.int .i32)))), (65, .int .i64), (69, .st (.pair (.int .i64) (.int .i32))), (72, .st (.pair (.int .i32) (.int .i32))), (73, .arr 35 (.st (.pair (.int .i32) (.int .i32))))], sls := [(22, ⟨21, .int .i32, 35184372088832⟩), (23, ⟨5, .int .u8, 140737488355328⟩), (25, ⟨28, .int .u8, 140737488355328⟩), (30, ⟨3, .int .i64, 17592186044416⟩), (32, ⟨46, .arr 2 (.int .i64), 8796093022208⟩), (53, ⟨56, .st (.pair (.int .i64) (.int .i64)), 8796093022208⟩), (64, ⟨69, .st (.pair (.int .i64) (.int .i32)), 8796093022208⟩)], eqs := [], enos := [] }
theorem mixed : Tryd.prog.follows .mixedOrders = true := by kernel_rfl
theorem ctx0 : CtxOk Tryd.prog G0 := ctx_ok (by kernel_rfl)
theorem no_calls {Λ : List Nat} : ∀ f fa, olook f ([] : List (Nat × Callee)) = some fa → CalleeOk Tryd.prog f fa ∧ (fa.isPlain = false → inList f Λ = true) := fun _ _ h => by cases h
theorem cons_calls {Λ : List Nat} {k : Nat} {fb : Callee} {l : List (Nat × Callee)} (h : CalleeOk Tryd.prog k fb) (hi : fb.isPlain = false → inList k Λ = true) (hl : ∀ f fa, olook f l = some fa → CalleeOk Tryd.prog f fa ∧ (fa.isPlain = false → inList f Λ = true)) : ∀ f fa, olook f ((k, fb) :: l) = some fa → CalleeOk Tryd.prog f fa ∧ (fa.isPlain = false → inList f Λ = true) := by
  intro f fa hf
  rw [olook_cons] at hf
  split at hf
  · rename_i e; subst e; cases hf; exact ⟨h, hi⟩
  · exact hl f fa hf

def gtab : List (Int × Int) := [(40, 41), (60, 62), (91, 93), (123, 125), (171, 187), (8249, 8250), (8261, 8262), (8317, 8318), (8333, 8334), (8712, 8715), (8713, 8716), (8804, 8805), (8806, 8807), (8810, 8811), (8834, 8835), (8838, 8839), (8968, 8969), (8970, 8971), (9001, 9002), (10214, 10215), (10216, 10217), (10218, 10219), (10627, 10628), (12296, 12297), (12298, 12299), (12300, 12301), (12302, 12303), (12304, 12305), (12308, 12309), (12310, 12311), (65288, 65289), (65308, 65310), (65339, 65341), (65371, 65373), (65378, 65379)]

/-! ### boustrophedon/neutral.Level -/
noncomputable def neutral_Level_T (level0 : Int) : Tr Int :=
  .br (decide (level0 > 0)) (
    .br ((level0.tmod 2) == 1) (
      .pure 1) (
      .pure 0)) (
    .pure 0)
noncomputable def neutral_Level_F (level0 : Int) : Option Int := (neutral_Level_T level0).run
def neutral_Level_L : List (Nat × LoopAnn) := []
noncomputable def neutral_Level_C : List (Nat × Callee) := []
noncomputable def neutral_Level_fun : Fun := ⟨[.int .i64], [.v (.int .u8)], fun x => neutral_Level_F x.1⟩
theorem neutral_Level_ev (x : Tys.I [.int .i64]) : evFun G0 (fun f => olook f neutral_Level_C) ⟨[], [], [], [], [], []⟩ (fun i => olook i neutral_Level_L) Tryd.f20 [.int .i64] [.v (.int .u8)] x = neutral_Level_T x.1 := by kernel_rfl
theorem neutral_Level_ok : FunOk Tryd.prog 20 neutral_Level_fun := evFun_ok mixed ctx0 (no_calls) Tryd.func20 (by kernel_rfl) _ (fun x => congrArg Tr.run (neutral_Level_ev x)) (by kernel_rfl) (by kernel_rfl)
/-! ### slices.Clone[[]boustrophedon/bidic.Class,boustrophedon/bidic.Class] -/
noncomputable def bidic_Class__T (s0 : List Int) : Tr (List Int) :=
  .bnd (app 140737488355328 ([]) s0) fun r_1 =>
  .pure r_1
noncomputable def bidic_Class__F (s0 : List Int) : Option (List Int) := (bidic_Class__T s0).run
def bidic_Class__L : List (Nat × LoopAnn) := []
noncomputable def bidic_Class__C : List (Nat × Callee) := []
noncomputable def bidic_Class__fun : Fun := ⟨[.sl (.int .u8)], [.row 28 (.int .u8)], fun x => bidic_Class__F x.1⟩
noncomputable def bidic_Class__T0 : Tr (List Int) :=
  .pure ([])
theorem bidic_Class__ev0 : evFunS G0 (fun f => olook f bidic_Class__C) ⟨[], [], [], [], [], []⟩ (fun i => olook i bidic_Class__L) Tryd.f26 [.nil] [.row 28 (.int .u8)] = bidic_Class__T0 := by kernel_rfl
theorem bidic_Class__ev1 (s0 : List Int) : evFunS G0 (fun f => olook f bidic_Class__C) ⟨[], [], [], [], [], []⟩ (fun i => olook i bidic_Class__L) Tryd.f26 [.nn false (.int .u8) s0] [.row 28 (.int .u8)] = bidic_Class__T s0 := by kernel_rfl
theorem bidic_Class__nil (r : List Int) (h : bidic_Class__F [] = some r) : bidic_Class__T0.run = some r := by
  simp [bidic_Class__F, bidic_Class__T, bidic_Class__T0, app, mk, Tr.run] at h ⊢
  exact h
theorem bidic_Class__ok : FunOk Tryd.prog 26 bidic_Class__fun := evFunN_ok (A := ⟨[], [], [], [], [], []⟩) (L := fun i => olook i bidic_Class__L) mixed ctx0 (no_calls) Tryd.func26 (by kernel_rfl) _ (fun r h => (congrArg Tr.run bidic_Class__ev0).trans (bidic_Class__nil r h)) (fun s0 r h => (congrArg Tr.run (bidic_Class__ev1 s0)).trans h) (by kernel_rfl)
/-! ### boustrophedon/mirror.bracket -/
noncomputable def mirror_bracket_T (p0 : Int × Int) : Tr Bool :=
  .br (p0.1 == 60) (
    .pure false) (
    .br (p0.1 == 171) (
      .pure false) (
      .br (p0.1 == 8249) (
        .pure false) (
        .br (p0.1 == 8712) (
          .pure false) (
          .br (p0.1 == 8713) (
            .pure false) (
            .br (p0.1 == 8804) (
              .pure false) (
              .br (p0.1 == 8806) (
                .pure false) (
                .br (p0.1 == 8810) (
                  .pure false) (
                  .br (p0.1 == 8834) (
                    .pure false) (
                    .br (p0.1 == 8838) (
                      .pure false) (
                      .br (p0.1 == 65308) (
                        .pure false) (
                        .pure true)))))))))))
noncomputable def mirror_bracket_F (p0 : Int × Int) : Option Bool := (mirror_bracket_T p0).run
def mirror_bracket_L : List (Nat × LoopAnn) := []
noncomputable def mirror_bracket_C : List (Nat × Callee) := []
noncomputable def mirror_bracket_fun : Fun := ⟨[.st (.pair (.int .i32) (.int .i32))], [.v .bool], fun x => mirror_bracket_F x.1⟩
theorem mirror_bracket_ev (x : Tys.I [.st (.pair (.int .i32) (.int .i32))]) : evFun G0 (fun f => olook f mirror_bracket_C) ⟨[], [], [], [], [], []⟩ (fun i => olook i mirror_bracket_L) Tryd.f38 [.st (.pair (.int .i32) (.int .i32))] [.v .bool] x = mirror_bracket_T x.1 := by kernel_rfl
theorem mirror_bracket_ok : FunOk Tryd.prog 38 mirror_bracket_fun := evFun_ok mixed ctx0 (no_calls) Tryd.func38 (by kernel_rfl) _ (fun x => congrArg Tr.run (mirror_bracket_ev x)) (by kernel_rfl) (by kernel_rfl)
/-! ### boustrophedon/mirror.known -/
noncomputable def mirror_known_T (left0 : Int) : Tr Int :=
  .br (left0 == 9001) (
    .pure 12296) (
    .pure left0)
noncomputable def mirror_known_F (left0 : Int) : Option Int := (mirror_known_T left0).run
def mirror_known_L : List (Nat × LoopAnn) := []
noncomputable def mirror_known_C : List (Nat × Callee) := []
noncomputable def mirror_known_fun : Fun := ⟨[.int .i32], [.v (.int .i32)], fun x => mirror_known_F x.1⟩
theorem mirror_known_ev (x : Tys.I [.int .i32]) : evFun G0 (fun f => olook f mirror_known_C) ⟨[], [], [], [], [], []⟩ (fun i => olook i mirror_known_L) Tryd.f39 [.int .i32] [.v (.int .i32)] x = mirror_known_T x.1 := by kernel_rfl
theorem mirror_known_ok : FunOk Tryd.prog 39 mirror_known_fun := evFun_ok mixed ctx0 (no_calls) Tryd.func39 (by kernel_rfl) _ (fun x => congrArg Tr.run (mirror_known_ev x)) (by kernel_rfl) (by kernel_rfl)
/-! ### boustrophedon/mirror.Bracket -/
noncomputable def mirror_Bracket_L2 (r0 : Int) (t6 : List (Int × Int)) (t7 : Int) : Tr (Lap (Int × (List (Int × Int)) × Int) (Sum Unit (Int × Int))) :=
  .br (decide (t7 < 35)) (
    .bnd (idx t6 t7) fun x_1 =>
    .bnd (idx ([x_1]) 0) fun x_2 =>
    .br (x_2.1 != r0) (
      .bnd (idx ([x_1]) 0) fun x_3 =>
      .br (x_3.2 != r0) (
        .pure (.next (r0, t6, IntKind.i64.wrap (t7 + 1)))) (
        .bnd (idx ([x_1]) 0) fun x_4 =>
        .bnd (mirror_bracket_F x_4) fun c_5 =>
        .br (!c_5) (
          .pure (.next (r0, t6, IntKind.i64.wrap (t7 + 1)))) (
          .bnd (idx ([x_1]) 0) fun x_6 =>
          .br (x_6.1 == r0) (
            .bnd (idx ([x_1]) 0) fun x_7 =>
            .bnd (mirror_known_F x_7.1) fun c_8 =>
            .pure (.done (.inr (1, c_8)))) (
            .bnd (idx ([x_1]) 0) fun x_9 =>
            .bnd (mirror_known_F x_9.1) fun c_10 =>
            .pure (.done (.inr (2, c_10))))))) (
      .bnd (idx ([x_1]) 0) fun x_11 =>
      .bnd (mirror_bracket_F x_11) fun c_12 =>
      .br (!c_12) (
        .pure (.next (r0, t6, IntKind.i64.wrap (t7 + 1)))) (
        .bnd (idx ([x_1]) 0) fun x_13 =>
        .br (x_13.1 == r0) (
          .bnd (idx ([x_1]) 0) fun x_14 =>
          .bnd (mirror_known_F x_14.1) fun c_15 =>
          .pure (.done (.inr (1, c_15)))) (
          .bnd (idx ([x_1]) 0) fun x_16 =>
          .bnd (mirror_known_F x_16.1) fun c_17 =>
          .pure (.done (.inr (2, c_17))))))) (
    .pure (.done (.inl ())))
noncomputable def mirror_Bracket_T (r0 : Int) : Tr (Int × Int) :=
  .alt (loopW (fun s => (mirror_Bracket_L2 s.1 s.2.1 s.2.2).run) (r0, gtab, 0)) (fun l_18 =>
    .pure (0, 0)) (fun l_19 =>
    .pure (l_19.1, l_19.2))
noncomputable def mirror_Bracket_F (r0 : Int) : Option (Int × Int) := (mirror_Bracket_T r0).run
def mirror_Bracket_L : List (Nat × LoopAnn) := [(2, { head := [.sv 0 false (.int .i32), .sv 6 true (.arr 35 (.st (.pair (.int .i32) (.int .i32)))), .sv 7 true (.int .i64)], xid := 0, out := [], hasRet := true, res := [.sv 2 true (.int .i64), .sv 3 true (.int .i32)] })]
noncomputable def mirror_Bracket_C : List (Nat × Callee) := [(38, .plain mirror_bracket_fun), (39, .plain mirror_known_fun)]
noncomputable def mirror_Bracket_fun : Fun := ⟨[.int .i32], [.v (.int .i64), .v (.int .i32)], fun x => mirror_Bracket_F x.1⟩
theorem mirror_Bracket_ev (x : Tys.I [.int .i32]) : evFun G0 (fun f => olook f mirror_Bracket_C) ⟨[], [], [], [], [], []⟩ (fun i => olook i mirror_Bracket_L) Tryd.f36 [.int .i32] [.v (.int .i64), .v (.int .i32)] x = mirror_Bracket_T x.1 := by kernel_rfl
theorem mirror_Bracket_ok : FunOk Tryd.prog 36 mirror_Bracket_fun := evFun_ok mixed ctx0 (cons_calls (fb := .plain mirror_bracket_fun) mirror_bracket_ok (fun h => by cases h) (cons_calls (fb := .plain mirror_known_fun) mirror_known_ok (fun h => by cases h) (no_calls))) Tryd.func36 (by kernel_rfl) _ (fun x => congrArg Tr.run (mirror_Bracket_ev x)) (by kernel_rfl) (by kernel_rfl)
/-! ### boustrophedon/pairs.find -/
noncomputable def pairs_find_L2 (stack0 : List (Int × Int)) (known1 : Int) (k5 : Int) : Tr (Lap ((List (Int × Int)) × Int × Int) (Sum Unit Int)) :=
  .br (decide (k5 ≥ 0)) (
    .bnd (idx stack0 k5) fun x_1 =>
    .br (x_1.2 == known1) (
      .pure (.done (.inr k5))) (
      .pure (.next (stack0, known1, IntKind.i64.wrap (k5 - 1))))) (
    .pure (.done (.inl ())))
noncomputable def pairs_find_T (stack0 : List (Int × Int)) (known1 : Int) : Tr Int :=
  .alt (loopW (fun s => (pairs_find_L2 s.1 s.2.1 s.2.2).run) (stack0, known1, IntKind.i64.wrap ((stack0.length : Int) - 1))) (fun l_2 =>
    .pure (-1)) (fun l_3 =>
    .pure l_3)
noncomputable def pairs_find_F (stack0 : List (Int × Int)) (known1 : Int) : Option Int := (pairs_find_T stack0 known1).run
def pairs_find_L : List (Nat × LoopAnn) := [(2, { head := [.sv 0 false (.sl (.st (.pair (.int .i64) (.int .i32)))), .sv 1 false (.int .i32), .sv 5 true (.int .i64)], xid := 0, out := [], hasRet := true, res := [.sv 4 true (.int .i64)] })]
noncomputable def pairs_find_C : List (Nat × Callee) := []
noncomputable def pairs_find_fun : Fun := ⟨[.sl (.st (.pair (.int .i64) (.int .i32))), .int .i32], [.v (.int .i64)], fun x => pairs_find_F x.1 x.2.1⟩
theorem pairs_find_ev (x : Tys.I [.sl (.st (.pair (.int .i64) (.int .i32))), .int .i32]) : evFun G0 (fun f => olook f pairs_find_C) ⟨[], [], [], [], [], []⟩ (fun i => olook i pairs_find_L) Tryd.f37 [.sl (.st (.pair (.int .i64) (.int .i32))), .int .i32] [.v (.int .i64)] x = pairs_find_T x.1 x.2.1 := by kernel_rfl
theorem pairs_find_ok : FunOk Tryd.prog 37 pairs_find_fun := evFun_ok mixed ctx0 (no_calls) Tryd.func37 (by kernel_rfl) _ (fun x => congrArg Tr.run (pairs_find_ev x)) (by kernel_rfl) (by kernel_rfl)
/-! ### boustrophedon/pairs.closings -/
noncomputable def pairs_closings_L5 (rs0 : List Int) (cs1 : List Int) (closes6 : List Int) (stack7 : List (Int × Int)) (t19 : Int) (t20 : Int) : Tr (Lap (List Int × List Int × List Int × (List (Int × Int)) × Int × Int) (Sum (List Int) (List Int))) :=
  .br (decide (t20 < t19)) (
    .bnd (idx cs1 t20) fun x_2 =>
    .br (x_2 != 13) (
      .pure (.next (rs0, cs1, closes6, stack7, t19, IntKind.i64.wrap (t20 + 1)))) (
      .bnd (idx rs0 t20) fun x_3 =>
      .bnd (mirror_Bracket_F x_3) fun c_4 =>
      .br (c_4.1 == 1) (
        .br ((stack7.length : Int) == 63) (
          .pure (.done (.inr closes6))) (
          .bnd (app 8796093022208 stack7 ([(t20, c_4.2)])) fun r_5 =>
          .pure (.next (rs0, cs1, closes6, r_5, t19, IntKind.i64.wrap (t20 + 1))))) (
        .br (c_4.1 == 2) (
          .bnd (pairs_find_F stack7 c_4.2) fun c_6 =>
          .br (decide (c_6 ≥ 0)) (
            .bnd (idx stack7 c_6) fun x_7 =>
            .bnd (idx closes6 x_7.1) fun x_8 =>
            .bnd (cut stack7 0 c_6) fun r_9 =>
            .pure (.next (rs0, cs1, closes6.set (Int.toNat x_7.1) t20, r_9, t19, IntKind.i64.wrap (t20 + 1)))) (
            .pure (.next (rs0, cs1, closes6, stack7, t19, IntKind.i64.wrap (t20 + 1))))) (
          .pure (.next (rs0, cs1, closes6, stack7, t19, IntKind.i64.wrap (t20 + 1))))))) (
    .pure (.done (.inl closes6)))
noncomputable def pairs_closings_T (rs0 : List Int) (cs1 : List Int) : Tr (List Int) :=
  .bnd (mk 17592186044416 0 (if (cs1.length : Int) < (rs0.length : Int) then (cs1.length : Int) else (rs0.length : Int))) fun r_1 =>
  .alt (loopW (fun s => (pairs_closings_L5 s.1 s.2.1 s.2.2.1 s.2.2.2.1 s.2.2.2.2.1 s.2.2.2.2.2).run) (rs0, cs1, r_1, [], if (cs1.length : Int) < (rs0.length : Int) then (cs1.length : Int) else (rs0.length : Int), 0)) (fun l_10 =>
    .pure l_10) (fun l_11 =>
    .pure l_11)
noncomputable def pairs_closings_F (rs0 : List Int) (cs1 : List Int) : Option (List Int) := (pairs_closings_T rs0 cs1).run
def pairs_closings_L : List (Nat × LoopAnn) := [(5, { head := [.sv 0 false (.sl (.int .i32)), .sv 1 false (.sl (.int .u8)), .srow 6 1000006 3 true (.int .i64), .srow 7 1000007 69 true (.st (.pair (.int .i64) (.int .i32))), .sv 19 true (.int .i64), .sv 20 true (.int .i64)], xid := 0, out := [.srow 6 1000006 3 true (.int .i64)], hasRet := true, res := [.srow 4 1000004 3 true (.int .i64)] })]
noncomputable def pairs_closings_C : List (Nat × Callee) := [(36, .plain mirror_Bracket_fun), (37, .plain pairs_find_fun)]
noncomputable def pairs_closings_fun : Fun := ⟨[.sl (.int .i32), .sl (.int .u8)], [.row 3 (.int .i64)], fun x => pairs_closings_F x.1 x.2.1⟩
theorem pairs_closings_ev (x : Tys.I [.sl (.int .i32), .sl (.int .u8)]) : evFun G0 (fun f => olook f pairs_closings_C) ⟨[66], [], [], [], [], []⟩ (fun i => olook i pairs_closings_L) Tryd.f35 [.sl (.int .i32), .sl (.int .u8)] [.row 3 (.int .i64)] x = pairs_closings_T x.1 x.2.1 := by kernel_rfl
theorem pairs_closings_ok : FunOk Tryd.prog 35 pairs_closings_fun := evFun_ok mixed ctx0 (cons_calls (fb := .plain mirror_Bracket_fun) mirror_Bracket_ok (fun h => by cases h) (cons_calls (fb := .plain pairs_find_fun) pairs_find_ok (fun h => by cases h) (no_calls))) Tryd.func35 (by kernel_rfl) _ (fun x => congrArg Tr.run (pairs_closings_ev x)) (by kernel_rfl) (by kernel_rfl)
/-! ### boustrophedon/pairs.Of -/
noncomputable def pairs_Of_L4 (ps6 : List (Int × Int)) (t12 : List Int) (t13 : Int) (t14 : Int) : Tr (Lap ((List (Int × Int)) × List Int × Int × Int) (List (Int × Int))) :=
  .br (decide (t14 < t13)) (
    .bnd (idx t12 t14) fun x_2 =>
    .br (decide (x_2 > 0)) (
      .bnd (app 8796093022208 ps6 ([(t14, x_2)])) fun r_3 =>
      .pure (.next (r_3, t12, t13, IntKind.i64.wrap (t14 + 1)))) (
      .pure (.next (ps6, t12, t13, IntKind.i64.wrap (t14 + 1))))) (
    .pure (.done ps6))
noncomputable def pairs_Of_T (rs0 : List Int) (cs1 : List Int) : Tr (List (Int × Int)) :=
  .bnd (pairs_closings_F rs0 cs1) fun c_1 =>
  .bnd (loopW (fun s => (pairs_Of_L4 s.1 s.2.1 s.2.2.1 s.2.2.2).run) ([], c_1, (c_1.length : Int), 0)) fun l_4 =>
  .pure l_4
noncomputable def pairs_Of_F (rs0 : List Int) (cs1 : List Int) : Option (List (Int × Int)) := (pairs_Of_T rs0 cs1).run
def pairs_Of_L : List (Nat × LoopAnn) := [(4, { head := [.srow 6 1000006 56 true (.st (.pair (.int .i64) (.int .i64))), .srow 12 1000012 3 true (.int .i64), .sv 13 true (.int .i64), .sv 14 true (.int .i64)], xid := 0, out := [.srow 6 1000006 56 true (.st (.pair (.int .i64) (.int .i64)))], hasRet := false, res := [] })]
noncomputable def pairs_Of_C : List (Nat × Callee) := [(35, .plain pairs_closings_fun)]
noncomputable def pairs_Of_fun : Fun := ⟨[.sl (.int .i32), .sl (.int .u8)], [.row 56 (.st (.pair (.int .i64) (.int .i64)))], fun x => pairs_Of_F x.1 x.2.1⟩
theorem pairs_Of_ev (x : Tys.I [.sl (.int .i32), .sl (.int .u8)]) : evFun G0 (fun f => olook f pairs_Of_C) ⟨[], [], [], [], [], []⟩ (fun i => olook i pairs_Of_L) Tryd.f27 [.sl (.int .i32), .sl (.int .u8)] [.row 56 (.st (.pair (.int .i64) (.int .i64)))] x = pairs_Of_T x.1 x.2.1 := by kernel_rfl
theorem pairs_Of_ok : FunOk Tryd.prog 27 pairs_Of_fun := evFun_ok mixed ctx0 (cons_calls (fb := .plain pairs_closings_fun) pairs_closings_ok (fun h => by cases h) (no_calls)) Tryd.func27 (by kernel_rfl) _ (fun x => congrArg Tr.run (pairs_Of_ev x)) (by kernel_rfl) (by kernel_rfl)
/-! ### boustrophedon/neutral.direction -/
noncomputable def neutral_direction_T (c0 : Int) : Tr Int :=
  .br (c0 == 0) (
    .pure 0) (
    .br (c0 == 1) (
      .pure 1) (
      .br (c0 == 2) (
        .pure 1) (
        .br (c0 == 3) (
          .pure 1) (
          .br (c0 == 6) (
            .pure 1) (
            .pure 13)))))
noncomputable def neutral_direction_F (c0 : Int) : Option Int := (neutral_direction_T c0).run
def neutral_direction_L : List (Nat × LoopAnn) := []
noncomputable def neutral_direction_C : List (Nat × Callee) := []
noncomputable def neutral_direction_fun : Fun := ⟨[.int .u8], [.v (.int .u8)], fun x => neutral_direction_F x.1⟩
theorem neutral_direction_ev (x : Tys.I [.int .u8]) : evFun G0 (fun f => olook f neutral_direction_C) ⟨[], [], [], [], [], []⟩ (fun i => olook i neutral_direction_L) Tryd.f31 [.int .u8] [.v (.int .u8)] x = neutral_direction_T x.1 := by kernel_rfl
theorem neutral_direction_ok : FunOk Tryd.prog 31 neutral_direction_fun := evFun_ok mixed ctx0 (no_calls) Tryd.func31 (by kernel_rfl) _ (fun x => congrArg Tr.run (neutral_direction_ev x)) (by kernel_rfl) (by kernel_rfl)
/-! ### boustrophedon/neutral.inside -/
noncomputable def neutral_inside_L3 (embedding1 : Int) (found5 : Int) (t9 : List Int) (t10 : Int) (t11 : Int) : Tr (Lap (Int × Int × List Int × Int × Int) (Sum Int Int)) :=
  .br (decide (t11 < t10)) (
    .bnd (idx t9 t11) fun x_1 =>
    .bnd (neutral_direction_F x_1) fun c_2 =>
    .br (c_2 == embedding1) (
      .pure (.done (.inr c_2))) (
      .br (c_2 != 13) (
        .pure (.next (embedding1, c_2, t9, t10, IntKind.i64.wrap (t11 + 1)))) (
        .pure (.next (embedding1, found5, t9, t10, IntKind.i64.wrap (t11 + 1)))))) (
    .pure (.done (.inl found5)))
noncomputable def neutral_inside_T (cs0 : List Int) (embedding1 : Int) : Tr Int :=
  .alt (loopW (fun s => (neutral_inside_L3 s.1 s.2.1 s.2.2.1 s.2.2.2.1 s.2.2.2.2).run) (embedding1, 13, cs0, (cs0.length : Int), 0)) (fun l_3 =>
    .pure l_3) (fun l_4 =>
    .pure l_4)
noncomputable def neutral_inside_F (cs0 : List Int) (embedding1 : Int) : Option Int := (neutral_inside_T cs0 embedding1).run
def neutral_inside_L : List (Nat × LoopAnn) := [(3, { head := [.sv 1 false (.int .u8), .sv 5 true (.int .u8), .sv 9 false (.sl (.int .u8)), .sv 10 true (.int .i64), .sv 11 true (.int .i64)], xid := 0, out := [.sv 5 true (.int .u8)], hasRet := true, res := [.sv 4 true (.int .u8)] })]
noncomputable def neutral_inside_C : List (Nat × Callee) := [(31, .plain neutral_direction_fun)]
noncomputable def neutral_inside_fun : Fun := ⟨[.sl (.int .u8), .int .u8], [.v (.int .u8)], fun x => neutral_inside_F x.1 x.2.1⟩
theorem neutral_inside_ev (x : Tys.I [.sl (.int .u8), .int .u8]) : evFun G0 (fun f => olook f neutral_inside_C) ⟨[], [], [], [], [], []⟩ (fun i => olook i neutral_inside_L) Tryd.f28 [.sl (.int .u8), .int .u8] [.v (.int .u8)] x = neutral_inside_T x.1 x.2.1 := by kernel_rfl
theorem neutral_inside_ok : FunOk Tryd.prog 28 neutral_inside_fun := evFun_ok mixed ctx0 (cons_calls (fb := .plain neutral_direction_fun) neutral_direction_ok (fun h => by cases h) (no_calls)) Tryd.func28 (by kernel_rfl) _ (fun x => congrArg Tr.run (neutral_inside_ev x)) (by kernel_rfl) (by kernel_rfl)
/-! ### boustrophedon/neutral.before -/
noncomputable def neutral_before_L2 (cs0 : List Int) (sos1 : Int) (i5 : Int) : Tr (Lap (List Int × Int × Int) (Sum Int Int)) :=
  .br (decide (i5 ≥ 0)) (
    .bnd (idx cs0 i5) fun x_1 =>
    .bnd (neutral_direction_F x_1) fun c_2 =>
    .br (c_2 != 13) (
      .pure (.done (.inr c_2))) (
      .pure (.next (cs0, sos1, IntKind.i64.wrap (i5 - 1))))) (
    .pure (.done (.inl sos1)))
noncomputable def neutral_before_T (cs0 : List Int) (sos1 : Int) : Tr Int :=
  .alt (loopW (fun s => (neutral_before_L2 s.1 s.2.1 s.2.2).run) (cs0, sos1, IntKind.i64.wrap ((cs0.length : Int) - 1))) (fun l_3 =>
    .pure l_3) (fun l_4 =>
    .pure l_4)
noncomputable def neutral_before_F (cs0 : List Int) (sos1 : Int) : Option Int := (neutral_before_T cs0 sos1).run
def neutral_before_L : List (Nat × LoopAnn) := [(2, { head := [.sv 0 false (.sl (.int .u8)), .sv 1 false (.int .u8), .sv 5 true (.int .i64)], xid := 0, out := [.sv 1 false (.int .u8)], hasRet := true, res := [.sv 4 true (.int .u8)] })]
noncomputable def neutral_before_C : List (Nat × Callee) := [(31, .plain neutral_direction_fun)]
noncomputable def neutral_before_fun : Fun := ⟨[.sl (.int .u8), .int .u8], [.v (.int .u8)], fun x => neutral_before_F x.1 x.2.1⟩
theorem neutral_before_ev (x : Tys.I [.sl (.int .u8), .int .u8]) : evFun G0 (fun f => olook f neutral_before_C) ⟨[], [], [], [], [], []⟩ (fun i => olook i neutral_before_L) Tryd.f29 [.sl (.int .u8), .int .u8] [.v (.int .u8)] x = neutral_before_T x.1 x.2.1 := by kernel_rfl
theorem neutral_before_ok : FunOk Tryd.prog 29 neutral_before_fun := evFun_ok mixed ctx0 (cons_calls (fb := .plain neutral_direction_fun) neutral_direction_ok (fun h => by cases h) (no_calls)) Tryd.func29 (by kernel_rfl) _ (fun x => congrArg Tr.run (neutral_before_ev x)) (by kernel_rfl) (by kernel_rfl)
/-! ### boustrophedon/neutral.turn -/
noncomputable def neutral_turn_L2 (cs0 : List Int) (first1 : List Int) (d3 : Int) (i8 : Int) : Tr (Lap (List Int × List Int × Int × Int) (List Int)) :=
  .br (decide (i8 < (cs0.length : Int))) (
    .bnd (idx first1 i8) fun x_2 =>
    .br (x_2 == 8) (
      .bnd (idx cs0 i8) fun _ =>
      .bnd (idx cs0 i8) fun _ =>
      .pure (.next (cs0.set (Int.toNat i8) d3, first1, d3, IntKind.i64.wrap (i8 + 1)))) (
      .pure (.done cs0))) (
    .pure (.done cs0))
noncomputable def neutral_turn_T (cs0 : List Int) (first1 : List Int) (at2 : Int) (d3 : Int) : Tr (List Int × Unit) :=
  .bnd (idx cs0 at2) fun _ =>
  .bnd (idx cs0 at2) fun _ =>
  .bnd (loopW (fun s => (neutral_turn_L2 s.1 s.2.1 s.2.2.1 s.2.2.2).run) (cs0.set (Int.toNat at2) d3, first1, d3, IntKind.i64.wrap (at2 + 1))) fun l_4 =>
  .pure (l_4, ())
noncomputable def neutral_turn_F (cs0 : List Int) (first1 : List Int) (at2 : Int) (d3 : Int) : Option (List Int × Unit) := (neutral_turn_T cs0 first1 at2 d3).run
def neutral_turn_L : List (Nat × LoopAnn) := [(2, { head := [.slrow 0 28 (.int .u8), .sv 1 false (.sl (.int .u8)), .sv 3 false (.int .u8), .sv 8 true (.int .i64)], xid := 0, out := [.slrow 0 28 (.int .u8)], hasRet := false, res := [] })]
noncomputable def neutral_turn_C : List (Nat × Callee) := []
noncomputable def neutral_turn_fun : LFun := ⟨28, (.int .u8), [.sl (.int .u8), .int .i64, .int .u8], [], fun s x => neutral_turn_F s x.1 x.2.1 x.2.2.1⟩
theorem neutral_turn_ev (s : List Int) (x : Tys.I [.sl (.int .u8), .int .i64, .int .u8]) : evFunL G0 (fun f => olook f neutral_turn_C) ⟨[], [], [], [], [], []⟩ (fun i => olook i neutral_turn_L) Tryd.f30 28 (.int .u8) [.sl (.int .u8), .int .i64, .int .u8] [] s x = neutral_turn_T s x.1 x.2.1 x.2.2.1 := by kernel_rfl
theorem neutral_turn_ok : LentOk Tryd.prog 30 neutral_turn_fun := evFunL_ok mixed ctx0 (no_calls) Tryd.func30 (by kernel_rfl) rfl _ (fun s x => congrArg Tr.run (neutral_turn_ev s x)) (by kernel_rfl)
/-! ### boustrophedon/neutral.Brackets -/
noncomputable def neutral_Brackets_L5 (first1 : List Int) (level3 : Int) (sos4 : Int) (out11 : List Int) (t32 : List (Int × Int)) (t33 : Int) (t34 : Int) : Tr (Lap (List Int × Int × Int × List Int × (List (Int × Int)) × Int × Int) (List Int)) :=
  .br (decide (t34 < t33)) (
    .bnd (idx t32 t34) fun x_3 =>
    .bnd (idx ([x_3]) 0) fun x_4 =>
    .bnd (idx ([x_3]) 0) fun x_5 =>
    .bnd (cut out11 (IntKind.i64.wrap (x_4.1 + 1)) x_5.2) fun r_6 =>
    .bnd (neutral_Level_F level3) fun c_7 =>
    .bnd (neutral_inside_F r_6 c_7) fun c_8 =>
    .br (c_8 == 13) (
      .pure (.next (first1, level3, sos4, out11, t32, t33, IntKind.i64.wrap (t34 + 1)))) (
      .bnd (neutral_Level_F level3) fun c_9 =>
      .br (c_8 != c_9) (
        .bnd (idx ([x_3]) 0) fun x_10 =>
        .bnd (cut out11 0 x_10.1) fun r_11 =>
        .bnd (neutral_before_F r_11 sos4) fun c_12 =>
        .bnd (idx ([x_3]) 0) fun x_13 =>
        .bnd (neutral_turn_F out11 first1 x_13.1 c_12) fun c_14 =>
        .bnd (idx ([x_3]) 0) fun x_15 =>
        .bnd (neutral_turn_F c_14.1 first1 x_15.2 c_12) fun c_16 =>
        .pure (.next (first1, level3, sos4, c_16.1, t32, t33, IntKind.i64.wrap (t34 + 1)))) (
        .bnd (idx ([x_3]) 0) fun x_17 =>
        .bnd (neutral_turn_F out11 first1 x_17.1 c_8) fun c_18 =>
        .bnd (idx ([x_3]) 0) fun x_19 =>
        .bnd (neutral_turn_F c_18.1 first1 x_19.2 c_8) fun c_20 =>
        .pure (.next (first1, level3, sos4, c_20.1, t32, t33, IntKind.i64.wrap (t34 + 1)))))) (
    .pure (.done out11))
noncomputable def neutral_Brackets_T (rs0 : List Int) (first1 : List Int) (cs2 : List Int) (level3 : Int) (sos4 : Int) : Tr (List Int) :=
  .bnd (bidic_Class__F cs2) fun c_1 =>
  .br ((rs0.length : Int) != (cs2.length : Int)) (
    .pure c_1) (
    .br ((first1.length : Int) != (cs2.length : Int)) (
      .pure c_1) (
      .bnd (pairs_Of_F rs0 cs2) fun c_2 =>
      .bnd (loopW (fun s => (neutral_Brackets_L5 s.1 s.2.1 s.2.2.1 s.2.2.2.1 s.2.2.2.2.1 s.2.2.2.2.2.1 s.2.2.2.2.2.2).run) (first1, level3, sos4, c_1, c_2, (c_2.length : Int), 0)) fun l_21 =>
      .pure l_21))
noncomputable def neutral_Brackets_F (rs0 : List Int) (first1 : List Int) (cs2 : List Int) (level3 : Int) (sos4 : Int) : Option (List Int) := (neutral_Brackets_T rs0 first1 cs2 level3 sos4).run
def neutral_Brackets_L : List (Nat × LoopAnn) := [(5, { head := [.sv 1 false (.sl (.int .u8)), .sv 3 false (.int .i64), .sv 4 false (.int .u8), .srow 11 1000011 28 true (.int .u8), .srow 32 1000032 56 true (.st (.pair (.int .i64) (.int .i64))), .sv 33 true (.int .i64), .sv 34 true (.int .i64)], xid := 0, out := [.srow 11 1000011 28 true (.int .u8)], hasRet := false, res := [] })]
noncomputable def neutral_Brackets_C : List (Nat × Callee) := [(26, .plain bidic_Class__fun), (27, .plain pairs_Of_fun), (20, .plain neutral_Level_fun), (28, .plain neutral_inside_fun), (29, .plain neutral_before_fun), (30, .lent neutral_turn_fun)]
noncomputable def neutral_Brackets_fun : Fun := ⟨[.sl (.int .i32), .sl (.int .u8), .sl (.int .u8), .int .i64, .int .u8], [.row 28 (.int .u8)], fun x => neutral_Brackets_F x.1 x.2.1 x.2.2.1 x.2.2.2.1 x.2.2.2.2.1⟩
theorem neutral_Brackets_ev (x : Tys.I [.sl (.int .i32), .sl (.int .u8), .sl (.int .u8), .int .i64, .int .u8]) : evFun G0 (fun f => olook f neutral_Brackets_C) ⟨[], [], [30], [], [], []⟩ (fun i => olook i neutral_Brackets_L) Tryd.f16 [.sl (.int .i32), .sl (.int .u8), .sl (.int .u8), .int .i64, .int .u8] [.row 28 (.int .u8)] x = neutral_Brackets_T x.1 x.2.1 x.2.2.1 x.2.2.2.1 x.2.2.2.2.1 := by kernel_rfl
theorem neutral_Brackets_ok : FunOk Tryd.prog 16 neutral_Brackets_fun := evFun_ok mixed ctx0 (cons_calls (fb := .plain bidic_Class__fun) bidic_Class__ok (fun h => by cases h) (cons_calls (fb := .plain pairs_Of_fun) pairs_Of_ok (fun h => by cases h) (cons_calls (fb := .plain neutral_Level_fun) neutral_Level_ok (fun h => by cases h) (cons_calls (fb := .plain neutral_inside_fun) neutral_inside_ok (fun h => by cases h) (cons_calls (fb := .plain neutral_before_fun) neutral_before_ok (fun h => by cases h) (cons_calls (fb := .lent neutral_turn_fun) neutral_turn_ok (fun h => by rfl) (no_calls))))))) Tryd.func16 (by kernel_rfl) _ (fun x => congrArg Tr.run (neutral_Brackets_ev x)) (by kernel_rfl) (by kernel_rfl)
/-! ### boustrophedon/neutral.fill -/
noncomputable def neutral_fill_L4 (cs0 : List Int) (d8 : Int) (t16 : Int) (t17 : Int) : Tr (Lap (List Int × Int × Int × Int) (List Int)) :=
  .br (decide (t17 < t16)) (
    .bnd (idx cs0 t17) fun _ =>
    .bnd (idx cs0 t17) fun _ =>
    .pure (.next (cs0.set (Int.toNat t17) d8, d8, t16, IntKind.i64.wrap (t17 + 1)))) (
    .pure (.done cs0))
noncomputable def neutral_fill_T (cs0 : List Int) (last1 : Int) (next2 : Int) (embedding3 : Int) : Tr (List Int × Unit) :=
  .br (last1 == next2) (
    .bnd (loopW (fun s => (neutral_fill_L4 s.1 s.2.1 s.2.2.1 s.2.2.2).run) (cs0, last1, (cs0.length : Int), 0)) fun l_2 =>
    .pure (l_2, ())) (
    .bnd (loopW (fun s => (neutral_fill_L4 s.1 s.2.1 s.2.2.1 s.2.2.2).run) (cs0, embedding3, (cs0.length : Int), 0)) fun l_3 =>
    .pure (l_3, ()))
noncomputable def neutral_fill_F (cs0 : List Int) (last1 : Int) (next2 : Int) (embedding3 : Int) : Option (List Int × Unit) := (neutral_fill_T cs0 last1 next2 embedding3).run
def neutral_fill_L : List (Nat × LoopAnn) := [(4, { head := [.slrow 0 28 (.int .u8), .sv 8 false (.int .u8), .sv 16 true (.int .i64), .sv 17 true (.int .i64)], xid := 0, out := [.slrow 0 28 (.int .u8)], hasRet := false, res := [] })]
noncomputable def neutral_fill_C : List (Nat × Callee) := []
noncomputable def neutral_fill_fun : LFun := ⟨28, (.int .u8), [.int .u8, .int .u8, .int .u8], [], fun s x => neutral_fill_F s x.1 x.2.1 x.2.2.1⟩
theorem neutral_fill_ev (s : List Int) (x : Tys.I [.int .u8, .int .u8, .int .u8]) : evFunL G0 (fun f => olook f neutral_fill_C) ⟨[], [], [], [], [], []⟩ (fun i => olook i neutral_fill_L) Tryd.f32 28 (.int .u8) [.int .u8, .int .u8, .int .u8] [] s x = neutral_fill_T s x.1 x.2.1 x.2.2.1 := by kernel_rfl
theorem neutral_fill_ok : LentOk Tryd.prog 32 neutral_fill_fun := evFunL_ok mixed ctx0 (no_calls) Tryd.func32 (by kernel_rfl) rfl _ (fun s x => congrArg Tr.run (neutral_fill_ev s x)) (by kernel_rfl)
/-! ### boustrophedon/neutral.Rest -/
noncomputable def neutral_Rest_L6 (cs0 : List Int) (level1 : Int) (eos3 : Int) (out9 : List Int) (last10 : Int) (from11 : Int) (to12 : Int) : Tr (Lap (List Int × Int × Int × List Int × Int × Int × Int) (List Int × Int × Int × List Int × Int × Int × Int)) :=
  .br (decide (to12 < (cs0.length : Int))) (
    .bnd (idx cs0 to12) fun x_2 =>
    .bnd (neutral_direction_F x_2) fun c_3 =>
    .br (c_3 == 13) (
      .pure (.next (cs0, level1, eos3, out9, last10, from11, IntKind.i64.wrap (to12 + 1)))) (
      .pure (.done (cs0, level1, eos3, out9, last10, from11, to12)))) (
    .pure (.done (cs0, level1, eos3, out9, last10, from11, to12)))
noncomputable def neutral_Rest_L4 (cs0 : List Int) (level1 : Int) (eos3 : Int) (out9 : List Int) (last10 : Int) (from11 : Int) : Tr (Lap (List Int × Int × Int × List Int × Int × Int) (List Int)) :=
  .br (decide (from11 < (cs0.length : Int))) (
    .bnd (loopW (fun s => (neutral_Rest_L6 s.1 s.2.1 s.2.2.1 s.2.2.2.1 s.2.2.2.2.1 s.2.2.2.2.2.1 s.2.2.2.2.2.2).run) (cs0, level1, eos3, out9, last10, from11, from11)) fun l_4 =>
    .br (decide (l_4.2.2.2.2.2.2 < (l_4.1.length : Int))) (
      .bnd (idx l_4.1 l_4.2.2.2.2.2.2) fun x_5 =>
      .bnd (neutral_direction_F x_5) fun c_6 =>
      .bnd (cut l_4.2.2.2.1 l_4.2.2.2.2.2.1 l_4.2.2.2.2.2.2) fun r_7 =>
      .bnd (neutral_Level_F l_4.2.1) fun c_8 =>
      .bnd (neutral_fill_F ((l_4.2.2.2.1.drop ((l_4.2.2.2.2.2.1).toNat)).take r_7.length) l_4.2.2.2.2.1 c_6 c_8) fun c_9 =>
      .pure (.next (l_4.1, l_4.2.1, l_4.2.2.1, splice' l_4.2.2.2.1 ((l_4.2.2.2.2.2.1).toNat) r_7.length c_9.1, c_6, IntKind.i64.wrap (l_4.2.2.2.2.2.2 + 1)))) (
      .bnd (cut l_4.2.2.2.1 l_4.2.2.2.2.2.1 l_4.2.2.2.2.2.2) fun r_10 =>
      .bnd (neutral_Level_F l_4.2.1) fun c_11 =>
      .bnd (neutral_fill_F ((l_4.2.2.2.1.drop ((l_4.2.2.2.2.2.1).toNat)).take r_10.length) l_4.2.2.2.2.1 l_4.2.2.1 c_11) fun c_12 =>
      .pure (.next (l_4.1, l_4.2.1, l_4.2.2.1, splice' l_4.2.2.2.1 ((l_4.2.2.2.2.2.1).toNat) r_10.length c_12.1, l_4.2.2.1, IntKind.i64.wrap (l_4.2.2.2.2.2.2 + 1))))) (
    .pure (.done out9))
noncomputable def neutral_Rest_T (cs0 : List Int) (level1 : Int) (sos2 : Int) (eos3 : Int) : Tr (List Int) :=
  .bnd (bidic_Class__F cs0) fun c_1 =>
  .bnd (loopW (fun s => (neutral_Rest_L4 s.1 s.2.1 s.2.2.1 s.2.2.2.1 s.2.2.2.2.1 s.2.2.2.2.2).run) (cs0, level1, eos3, c_1, sos2, 0)) fun l_13 =>
  .pure l_13
noncomputable def neutral_Rest_F (cs0 : List Int) (level1 : Int) (sos2 : Int) (eos3 : Int) : Option (List Int) := (neutral_Rest_T cs0 level1 sos2 eos3).run
def neutral_Rest_L : List (Nat × LoopAnn) := [(6, { head := [.sv 0 false (.sl (.int .u8)), .sv 1 false (.int .i64), .sv 3 false (.int .u8), .srow 9 1000009 28 true (.int .u8), .sv 10 false (.int .u8), .sv 11 true (.int .i64), .sv 12 true (.int .i64)], xid := 2, out := [.sv 0 false (.sl (.int .u8)), .sv 1 false (.int .i64), .sv 3 false (.int .u8), .srow 9 1000009 28 true (.int .u8), .sv 10 false (.int .u8), .sv 11 true (.int .i64), .sv 12 true (.int .i64)], hasRet := false, res := [] }), (4, { head := [.sv 0 false (.sl (.int .u8)), .sv 1 false (.int .i64), .sv 3 false (.int .u8), .srow 9 1000009 28 true (.int .u8), .sv 10 false (.int .u8), .sv 11 true (.int .i64)], xid := 0, out := [.srow 9 1000009 28 true (.int .u8)], hasRet := false, res := [] })]
noncomputable def neutral_Rest_C : List (Nat × Callee) := [(26, .plain bidic_Class__fun), (31, .plain neutral_direction_fun), (20, .plain neutral_Level_fun), (32, .lent neutral_fill_fun)]
noncomputable def neutral_Rest_fun : Fun := ⟨[.sl (.int .u8), .int .i64, .int .u8, .int .u8], [.row 28 (.int .u8)], fun x => neutral_Rest_F x.1 x.2.1 x.2.2.1 x.2.2.2.1⟩
theorem neutral_Rest_ev (x : Tys.I [.sl (.int .u8), .int .i64, .int .u8, .int .u8]) : evFun G0 (fun f => olook f neutral_Rest_C) ⟨[], [], [32], [], [], []⟩ (fun i => olook i neutral_Rest_L) Tryd.f18 [.sl (.int .u8), .int .i64, .int .u8, .int .u8] [.row 28 (.int .u8)] x = neutral_Rest_T x.1 x.2.1 x.2.2.1 x.2.2.2.1 := by kernel_rfl
theorem neutral_Rest_ok : FunOk Tryd.prog 18 neutral_Rest_fun := evFun_ok mixed ctx0 (cons_calls (fb := .plain bidic_Class__fun) bidic_Class__ok (fun h => by cases h) (cons_calls (fb := .plain neutral_direction_fun) neutral_direction_ok (fun h => by cases h) (cons_calls (fb := .plain neutral_Level_fun) neutral_Level_ok (fun h => by cases h) (cons_calls (fb := .lent neutral_fill_fun) neutral_fill_ok (fun h => by rfl) (no_calls))))) Tryd.func18 (by kernel_rfl) _ (fun x => congrArg Tr.run (neutral_Rest_ev x)) (by kernel_rfl) (by kernel_rfl)
/-! ### boustrophedon/boustrophedonlaw16.awake -/
noncomputable def law16_awake_T : Tr Bool :=
  .bnd (neutral_Brackets_F ([1488, 40, 1489, 41]) ([1, 13, 1, 13]) ([1, 13, 1, 13]) 0 0) fun c_1 =>
  .bnd (neutral_Rest_F ([0, 13, 1, 13, 1]) 0 0 0) fun c_2 =>
  .bnd (neutral_Rest_F ([13, 3]) 0 1 1) fun c_3 =>
  .br ((c_1.length : Int) == 4) (
    .bnd (idx c_1 1) fun x_4 =>
    .br (x_4 == 1) (
      .bnd (idx c_1 3) fun x_5 =>
      .br (x_5 == 1) (
        .br ((c_2.length : Int) == 5) (
          .bnd (idx c_2 1) fun x_6 =>
          .br (x_6 == 0) (
            .bnd (idx c_2 3) fun x_7 =>
            .br (x_7 == 1) (
              .br ((c_3.length : Int) == 2) (
                .bnd (idx c_3 0) fun x_8 =>
                .br (x_8 == 1) (
                  .bnd (idx c_3 1) fun x_9 =>
                  .br (x_9 == 3) (
                    .bnd (neutral_Level_F 3) fun c_10 =>
                    .pure (c_10 == 1)) (
                    .pure false)) (
                  .pure false)) (
                .pure false)) (
              .pure false)) (
            .pure false)) (
          .pure false)) (
        .pure false)) (
      .pure false)) (
    .pure false)
noncomputable def law16_awake_F : Option Bool := (law16_awake_T).run
def law16_awake_L : List (Nat × LoopAnn) := []
noncomputable def law16_awake_C : List (Nat × Callee) := [(16, .plain neutral_Brackets_fun), (18, .plain neutral_Rest_fun), (20, .plain neutral_Level_fun)]
noncomputable def law16_awake_fun : Fun := ⟨[], [.v .bool], fun _ => law16_awake_F⟩
theorem law16_awake_ev (x : Tys.I []) : evFun G0 (fun f => olook f law16_awake_C) ⟨[], [], [], [], [], []⟩ (fun i => olook i law16_awake_L) Tryd.f9 [] [.v .bool] x = law16_awake_T := by kernel_rfl
theorem law16_awake_ok : FunOk Tryd.prog 9 law16_awake_fun := evFun_ok mixed ctx0 (cons_calls (fb := .plain neutral_Brackets_fun) neutral_Brackets_ok (fun h => by cases h) (cons_calls (fb := .plain neutral_Rest_fun) neutral_Rest_ok (fun h => by cases h) (cons_calls (fb := .plain neutral_Level_fun) neutral_Level_ok (fun h => by cases h) (no_calls)))) Tryd.func9 (by kernel_rfl) _ (fun x => congrArg Tr.run (law16_awake_ev x)) (by kernel_rfl) (by kernel_rfl)
/-! ### boustrophedon/boustrophedonlaw08.Classes -/
noncomputable def law08_Classes_L3 (ns0 : List Int) (out3 : List Int) (k4 : Int) : Tr (Lap (List Int × List Int × Int) (List Int)) :=
  .br (decide (k4 < (ns0.length : Int))) (
    .bnd (idx ns0 k4) fun x_1 =>
    .bnd (app 140737488355328 out3 ([x_1.tmod 23])) fun r_2 =>
    .pure (.next (ns0, r_2, IntKind.i64.wrap (k4 + 1)))) (
    .pure (.done out3))
noncomputable def law08_Classes_T (ns0 : List Int) : Tr (List Int) :=
  .bnd (loopW (fun s => (law08_Classes_L3 s.1 s.2.1 s.2.2).run) (ns0, [], 0)) fun l_3 =>
  .pure l_3
noncomputable def law08_Classes_F (ns0 : List Int) : Option (List Int) := (law08_Classes_T ns0).run
def law08_Classes_L : List (Nat × LoopAnn) := [(3, { head := [.sv 0 false (.sl (.int .u8)), .srow 3 1000003 28 true (.int .u8), .sv 4 true (.int .i64)], xid := 0, out := [.srow 3 1000003 28 true (.int .u8)], hasRet := false, res := [] })]
noncomputable def law08_Classes_C : List (Nat × Callee) := []
noncomputable def law08_Classes_fun : Fun := ⟨[.sl (.int .u8)], [.row 28 (.int .u8)], fun x => law08_Classes_F x.1⟩
theorem law08_Classes_ev (x : Tys.I [.sl (.int .u8)]) : evFun G0 (fun f => olook f law08_Classes_C) ⟨[], [], [], [], [], []⟩ (fun i => olook i law08_Classes_L) Tryd.f17 [.sl (.int .u8)] [.row 28 (.int .u8)] x = law08_Classes_T x.1 := by kernel_rfl
theorem law08_Classes_ok : FunOk Tryd.prog 17 law08_Classes_fun := evFun_ok mixed ctx0 (no_calls) Tryd.func17 (by kernel_rfl) _ (fun x => congrArg Tr.run (law08_Classes_ev x)) (by kernel_rfl) (by kernel_rfl)
/-! ### boustrophedon/boustrophedonlaw16.Cut -/
noncomputable def law16_Cut_T (rs0 : List Int) (ns1 : List Int) (ms2 : List Int) : Tr (List Int × List Int × List Int) :=
  .bnd (law08_Classes_F ns1) fun c_1 =>
  .bnd (law08_Classes_F ms2) fun c_2 =>
  .bnd (cut rs0 0 (if (c_2.length : Int) < (if (c_1.length : Int) < (rs0.length : Int) then (c_1.length : Int) else (rs0.length : Int)) then (c_2.length : Int) else (if (c_1.length : Int) < (rs0.length : Int) then (c_1.length : Int) else (rs0.length : Int)))) fun r_3 =>
  .bnd (cut c_1 0 (if (c_2.length : Int) < (if (c_1.length : Int) < (rs0.length : Int) then (c_1.length : Int) else (rs0.length : Int)) then (c_2.length : Int) else (if (c_1.length : Int) < (rs0.length : Int) then (c_1.length : Int) else (rs0.length : Int)))) fun r_4 =>
  .bnd (cut c_2 0 (if (c_2.length : Int) < (if (c_1.length : Int) < (rs0.length : Int) then (c_1.length : Int) else (rs0.length : Int)) then (c_2.length : Int) else (if (c_1.length : Int) < (rs0.length : Int) then (c_1.length : Int) else (rs0.length : Int)))) fun r_5 =>
  .pure (r_3, r_4, r_5)
noncomputable def law16_Cut_F (rs0 : List Int) (ns1 : List Int) (ms2 : List Int) : Option (List Int × List Int × List Int) := (law16_Cut_T rs0 ns1 ms2).run
def law16_Cut_L : List (Nat × LoopAnn) := []
noncomputable def law16_Cut_C : List (Nat × Callee) := [(17, .plain law08_Classes_fun)]
noncomputable def law16_Cut_fun : OFun := ⟨[.sl (.int .i32), .sl (.int .u8), .sl (.int .u8)], (.sl (.int .i32)), [.row 28 (.int .u8), .row 28 (.int .u8)], fun x => law16_Cut_F x.1 x.2.1 x.2.2.1⟩
theorem law16_Cut_ev (x : Tys.I [.sl (.int .i32), .sl (.int .u8), .sl (.int .u8)]) : evFunO G0 (fun f => olook f law16_Cut_C) ⟨[28, 31], [], [], [], [], []⟩ (fun i => olook i law16_Cut_L) Tryd.f10 [.sl (.int .i32), .sl (.int .u8), .sl (.int .u8)] (.sl (.int .i32)) [.row 28 (.int .u8), .row 28 (.int .u8)] x = law16_Cut_T x.1 x.2.1 x.2.2.1 := by kernel_rfl
theorem law16_Cut_ok : OldOk Tryd.prog 10 law16_Cut_fun := evFunO_ok mixed ctx0 (cons_calls (fb := .plain law08_Classes_fun) law08_Classes_ok (fun h => by cases h) (no_calls)) Tryd.func10 (by kernel_rfl) _ (fun x => congrArg Tr.run (law16_Cut_ev x)) (by kernel_rfl)
/-! ### boustrophedon/boustrophedonlaw14.Side -/
noncomputable def law14_Side_T (right0 : Bool) : Tr Int :=
  .br right0 (
    .pure 1) (
    .pure 0)
noncomputable def law14_Side_F (right0 : Bool) : Option Int := (law14_Side_T right0).run
def law14_Side_L : List (Nat × LoopAnn) := []
noncomputable def law14_Side_C : List (Nat × Callee) := []
noncomputable def law14_Side_fun : Fun := ⟨[.bool], [.v (.int .u8)], fun x => law14_Side_F x.1⟩
theorem law14_Side_ev (x : Tys.I [.bool]) : evFun G0 (fun f => olook f law14_Side_C) ⟨[], [], [], [], [], []⟩ (fun i => olook i law14_Side_L) Tryd.f11 [.bool] [.v (.int .u8)] x = law14_Side_T x.1 := by kernel_rfl
theorem law14_Side_ok : FunOk Tryd.prog 11 law14_Side_fun := evFun_ok mixed ctx0 (no_calls) Tryd.func11 (by kernel_rfl) _ (fun x => congrArg Tr.run (law14_Side_ev x)) (by kernel_rfl) (by kernel_rfl)
/-! ### boustrophedon/boustrophedonref14.copied -/
noncomputable def ref14_copied_T (cs0 : List Int) : Tr (List Int) :=
  .bnd (app 17592186044416 [] cs0) fun r_1 =>
  .pure r_1
noncomputable def ref14_copied_F (cs0 : List Int) : Option (List Int) := (ref14_copied_T cs0).run
def ref14_copied_L : List (Nat × LoopAnn) := []
noncomputable def ref14_copied_C : List (Nat × Callee) := []
noncomputable def ref14_copied_fun : Fun := ⟨[.sl (.int .i64)], [.row 3 (.int .i64)], fun x => ref14_copied_F x.1⟩
theorem ref14_copied_ev (x : Tys.I [.sl (.int .i64)]) : evFun G0 (fun f => olook f ref14_copied_C) ⟨[], [], [], [], [], []⟩ (fun i => olook i ref14_copied_L) Tryd.f21 [.sl (.int .i64)] [.row 3 (.int .i64)] x = ref14_copied_T x.1 := by kernel_rfl
theorem ref14_copied_ok : FunOk Tryd.prog 21 ref14_copied_fun := evFun_ok mixed ctx0 (no_calls) Tryd.func21 (by kernel_rfl) _ (fun x => congrArg Tr.run (ref14_copied_ev x)) (by kernel_rfl) (by kernel_rfl)
/-! ### boustrophedon/boustrophedonref14.side -/
noncomputable def ref14_side_T (c0 : Int) : Tr Int :=
  .br (c0 == 0) (
    .pure 0) (
    .br (c0 == 1) (
      .pure 1) (
      .br (c0 == 2) (
        .pure 1) (
        .br (c0 == 3) (
          .pure 1) (
          .br (c0 == 6) (
            .pure 1) (
            .pure (-1))))))
noncomputable def ref14_side_F (c0 : Int) : Option Int := (ref14_side_T c0).run
def ref14_side_L : List (Nat × LoopAnn) := []
noncomputable def ref14_side_C : List (Nat × Callee) := []
noncomputable def ref14_side_fun : Fun := ⟨[.int .i64], [.v (.int .i64)], fun x => ref14_side_F x.1⟩
theorem ref14_side_ev (x : Tys.I [.int .i64]) : evFun G0 (fun f => olook f ref14_side_C) ⟨[], [], [], [], [], []⟩ (fun i => olook i ref14_side_L) Tryd.f22 [.int .i64] [.v (.int .i64)] x = ref14_side_T x.1 := by kernel_rfl
theorem ref14_side_ok : FunOk Tryd.prog 22 ref14_side_fun := evFun_ok mixed ctx0 (no_calls) Tryd.func22 (by kernel_rfl) _ (fun x => congrArg Tr.run (ref14_side_ev x)) (by kernel_rfl) (by kernel_rfl)
/-! ### boustrophedon/boustrophedonref14.context -/
noncomputable def ref14_context_L2 (cs0 : List Int) (sos2 : Int) (k7 : Int) : Tr (Lap (List Int × Int × Int) (Sum Int Int)) :=
  .br (decide (k7 ≥ 0)) (
    .bnd (idx cs0 k7) fun x_1 =>
    .bnd (ref14_side_F x_1) fun c_2 =>
    .br (decide (c_2 ≥ 0)) (
      .bnd (idx cs0 k7) fun x_3 =>
      .bnd (ref14_side_F x_3) fun c_4 =>
      .pure (.done (.inr c_4))) (
      .pure (.next (cs0, sos2, IntKind.i64.wrap (k7 - 1))))) (
    .pure (.done (.inl sos2)))
noncomputable def ref14_context_T (cs0 : List Int) (at1 : Int) (sos2 : Int) : Tr Int :=
  .alt (loopW (fun s => (ref14_context_L2 s.1 s.2.1 s.2.2).run) (cs0, sos2, IntKind.i64.wrap (at1 - 1))) (fun l_5 =>
    .pure l_5) (fun l_6 =>
    .pure l_6)
noncomputable def ref14_context_F (cs0 : List Int) (at1 : Int) (sos2 : Int) : Option Int := (ref14_context_T cs0 at1 sos2).run
def ref14_context_L : List (Nat × LoopAnn) := [(2, { head := [.sv 0 false (.sl (.int .i64)), .sv 2 false (.int .i64), .sv 7 true (.int .i64)], xid := 0, out := [.sv 2 false (.int .i64)], hasRet := true, res := [.sv 6 true (.int .i64)] })]
noncomputable def ref14_context_C : List (Nat × Callee) := [(22, .plain ref14_side_fun)]
noncomputable def ref14_context_fun : Fun := ⟨[.sl (.int .i64), .int .i64, .int .i64], [.v (.int .i64)], fun x => ref14_context_F x.1 x.2.1 x.2.2.1⟩
theorem ref14_context_ev (x : Tys.I [.sl (.int .i64), .int .i64, .int .i64]) : evFun G0 (fun f => olook f ref14_context_C) ⟨[], [], [], [], [], []⟩ (fun i => olook i ref14_context_L) Tryd.f23 [.sl (.int .i64), .int .i64, .int .i64] [.v (.int .i64)] x = ref14_context_T x.1 x.2.1 x.2.2.1 := by kernel_rfl
theorem ref14_context_ok : FunOk Tryd.prog 23 ref14_context_fun := evFun_ok mixed ctx0 (cons_calls (fb := .plain ref14_side_fun) ref14_side_ok (fun h => by cases h) (no_calls)) Tryd.func23 (by kernel_rfl) _ (fun x => congrArg Tr.run (ref14_context_ev x)) (by kernel_rfl) (by kernel_rfl)
/-! ### boustrophedon/boustrophedonref14.Brackets -/
noncomputable def ref14_Brackets_L8 (ps0 : List (List Int)) (first1 : List Int) (sos4 : Int) (out11 : List Int) (own12 : Int) (i13 : Int) (to14 : Int) (k15 : Int) : Tr (Lap (List (List Int) × List Int × Int × List Int × Int × Int × Int × Int) (List (List Int) × List Int × Int × List Int × Int × Int × Int)) :=
  .bnd (idx ps0 i13) fun x_4 =>
  .bnd (idx x_4 1) fun x_5 =>
  .br (decide (k15 < x_5)) (
    .bnd (idx out11 k15) fun x_6 =>
    .bnd (ref14_side_F x_6) fun c_7 =>
    .br (c_7 == own12) (
      .pure (.next (ps0, first1, sos4, out11, own12, i13, own12, IntKind.i64.wrap (k15 + 1)))) (
      .pure (.next (ps0, first1, sos4, out11, own12, i13, to14, IntKind.i64.wrap (k15 + 1))))) (
    .pure (.done (ps0, first1, sos4, out11, own12, i13, to14)))
noncomputable def ref14_Brackets_L14 (ps0 : List (List Int)) (first1 : List Int) (sos4 : Int) (out11 : List Int) (own12 : Int) (i13 : Int) (to14 : Int) (k16 : Int) : Tr (Lap (List (List Int) × List Int × Int × List Int × Int × Int × Int × Int) (List (List Int) × List Int × Int × List Int × Int × Int × Int)) :=
  .bnd (idx ps0 i13) fun x_11 =>
  .bnd (idx x_11 1) fun x_12 =>
  .br (decide (k16 < x_12)) (
    .bnd (idx out11 k16) fun x_13 =>
    .bnd (ref14_side_F x_13) fun c_14 =>
    .br (c_14 == (IntKind.i64.wrap (1 - own12))) (
      .bnd (idx ps0 i13) fun x_15 =>
      .bnd (idx x_15 0) fun x_16 =>
      .bnd (ref14_context_F out11 x_16 sos4) fun c_17 =>
      .pure (.next (ps0, first1, sos4, out11, own12, i13, c_17, IntKind.i64.wrap (k16 + 1)))) (
      .pure (.next (ps0, first1, sos4, out11, own12, i13, to14, IntKind.i64.wrap (k16 + 1))))) (
    .pure (.done (ps0, first1, sos4, out11, own12, i13, to14)))
noncomputable def ref14_Brackets_L24 (ps0 : List (List Int)) (first1 : List Int) (sos4 : Int) (out11 : List Int) (own12 : Int) (i13 : Int) (to14 : Int) (e17 : Int) (k18 : Int) : Tr (Lap (List (List Int) × List Int × Int × List Int × Int × Int × Int × Int × Int) (List (List Int) × List Int × Int × List Int × Int × Int × Int × Int)) :=
  .br (decide (k18 < (out11.length : Int))) (
    .bnd (idx first1 k18) fun x_24 =>
    .br (x_24 == 8) (
      .bnd (idx out11 k18) fun x_25 =>
      .pure (.next (ps0, first1, sos4, out11.set (Int.toNat k18) to14, own12, i13, to14, e17, IntKind.i64.wrap (k18 + 1)))) (
      .pure (.done (ps0, first1, sos4, out11, own12, i13, to14, e17)))) (
    .pure (.done (ps0, first1, sos4, out11, own12, i13, to14, e17)))
noncomputable def ref14_Brackets_L20 (ps0 : List (List Int)) (first1 : List Int) (sos4 : Int) (out11 : List Int) (own12 : Int) (i13 : Int) (to14 : Int) (e17 : Int) : Tr (Lap (List (List Int) × List Int × Int × List Int × Int × Int × Int × Int) (List (List Int) × List Int × Int × List Int × Int × Int)) :=
  .br (decide (e17 < 2)) (
    .bnd (idx ps0 i13) fun x_19 =>
    .bnd (idx x_19 e17) fun x_20 =>
    .bnd (idx out11 x_20) fun x_21 =>
    .bnd (idx ps0 i13) fun x_22 =>
    .bnd (idx x_22 e17) fun x_23 =>
    .bnd (loopW (fun s => (ref14_Brackets_L24 s.1 s.2.1 s.2.2.1 s.2.2.2.1 s.2.2.2.2.1 s.2.2.2.2.2.1 s.2.2.2.2.2.2.1 s.2.2.2.2.2.2.2.1 s.2.2.2.2.2.2.2.2).run) (ps0, first1, sos4, out11.set (Int.toNat x_20) to14, own12, i13, to14, e17, IntKind.i64.wrap (x_23 + 1))) fun l_26 =>
    .pure (.next (l_26.1, l_26.2.1, l_26.2.2.1, l_26.2.2.2.1, l_26.2.2.2.2.1, l_26.2.2.2.2.2.1, l_26.2.2.2.2.2.2.1, IntKind.i64.wrap (l_26.2.2.2.2.2.2.2 + 1)))) (
    .pure (.done (ps0, first1, sos4, out11, own12, i13)))
noncomputable def ref14_Brackets_L4 (ps0 : List (List Int)) (first1 : List Int) (sos4 : Int) (out11 : List Int) (own12 : Int) (i13 : Int) : Tr (Lap (List (List Int) × List Int × Int × List Int × Int × Int) (List Int)) :=
  .br (decide (i13 < (ps0.length : Int))) (
    .bnd (idx ps0 i13) fun x_2 =>
    .bnd (idx x_2 0) fun x_3 =>
    .bnd (loopW (fun s => (ref14_Brackets_L8 s.1 s.2.1 s.2.2.1 s.2.2.2.1 s.2.2.2.2.1 s.2.2.2.2.2.1 s.2.2.2.2.2.2.1 s.2.2.2.2.2.2.2).run) (ps0, first1, sos4, out11, own12, i13, (-1), IntKind.i64.wrap (x_3 + 1))) fun l_8 =>
    .br (decide (l_8.2.2.2.2.2.2 < 0)) (
      .bnd (idx l_8.1 l_8.2.2.2.2.2.1) fun x_9 =>
      .bnd (idx x_9 0) fun x_10 =>
      .bnd (loopW (fun s => (ref14_Brackets_L14 s.1 s.2.1 s.2.2.1 s.2.2.2.1 s.2.2.2.2.1 s.2.2.2.2.2.1 s.2.2.2.2.2.2.1 s.2.2.2.2.2.2.2).run) (l_8.1, l_8.2.1, l_8.2.2.1, l_8.2.2.2.1, l_8.2.2.2.2.1, l_8.2.2.2.2.2.1, l_8.2.2.2.2.2.2, IntKind.i64.wrap (x_10 + 1))) fun l_18 =>
      .br (decide (l_18.2.2.2.2.2.2 < 0)) (
        .pure (.next (l_18.1, l_18.2.1, l_18.2.2.1, l_18.2.2.2.1, l_18.2.2.2.2.1, IntKind.i64.wrap (l_18.2.2.2.2.2.1 + 1)))) (
        .bnd (loopW (fun s => (ref14_Brackets_L20 s.1 s.2.1 s.2.2.1 s.2.2.2.1 s.2.2.2.2.1 s.2.2.2.2.2.1 s.2.2.2.2.2.2.1 s.2.2.2.2.2.2.2).run) (l_18.1, l_18.2.1, l_18.2.2.1, l_18.2.2.2.1, l_18.2.2.2.2.1, l_18.2.2.2.2.2.1, l_18.2.2.2.2.2.2, 0)) fun l_27 =>
        .pure (.next (l_27.1, l_27.2.1, l_27.2.2.1, l_27.2.2.2.1, l_27.2.2.2.2.1, IntKind.i64.wrap (l_27.2.2.2.2.2 + 1))))) (
      .br (decide (l_8.2.2.2.2.2.2 < 0)) (
        .pure (.next (l_8.1, l_8.2.1, l_8.2.2.1, l_8.2.2.2.1, l_8.2.2.2.2.1, IntKind.i64.wrap (l_8.2.2.2.2.2.1 + 1)))) (
        .bnd (loopW (fun s => (ref14_Brackets_L20 s.1 s.2.1 s.2.2.1 s.2.2.2.1 s.2.2.2.2.1 s.2.2.2.2.2.1 s.2.2.2.2.2.2.1 s.2.2.2.2.2.2.2).run) (l_8.1, l_8.2.1, l_8.2.2.1, l_8.2.2.2.1, l_8.2.2.2.2.1, l_8.2.2.2.2.2.1, l_8.2.2.2.2.2.2, 0)) fun l_28 =>
        .pure (.next (l_28.1, l_28.2.1, l_28.2.2.1, l_28.2.2.2.1, l_28.2.2.2.2.1, IntKind.i64.wrap (l_28.2.2.2.2.2 + 1)))))) (
    .pure (.done out11))
noncomputable def ref14_Brackets_T (ps0 : List (List Int)) (first1 : List Int) (cs2 : List Int) (level3 : Int) (sos4 : Int) : Tr (List Int) :=
  .bnd (ref14_copied_F cs2) fun c_1 =>
  .bnd (loopW (fun s => (ref14_Brackets_L4 s.1 s.2.1 s.2.2.1 s.2.2.2.1 s.2.2.2.2.1 s.2.2.2.2.2).run) (ps0, first1, sos4, c_1, level3.tmod 2, 0)) fun l_29 =>
  .pure l_29
noncomputable def ref14_Brackets_F (ps0 : List (List Int)) (first1 : List Int) (cs2 : List Int) (level3 : Int) (sos4 : Int) : Option (List Int) := (ref14_Brackets_T ps0 first1 cs2 level3 sos4).run
def ref14_Brackets_L : List (Nat × LoopAnn) := [(8, { head := [.sv 0 false (.sl (.arr 2 (.int .i64))), .sv 1 false (.sl (.int .i64)), .sv 4 false (.int .i64), .srow 11 1000011 3 true (.int .i64), .sv 12 true (.int .i64), .sv 13 true (.int .i64), .sv 14 true (.int .i64), .sv 15 true (.int .i64)], xid := 2, out := [.sv 0 false (.sl (.arr 2 (.int .i64))), .sv 1 false (.sl (.int .i64)), .sv 4 false (.int .i64), .srow 11 1000011 3 true (.int .i64), .sv 12 true (.int .i64), .sv 13 true (.int .i64), .sv 14 true (.int .i64)], hasRet := false, res := [] }), (14, { head := [.sv 0 false (.sl (.arr 2 (.int .i64))), .sv 1 false (.sl (.int .i64)), .sv 4 false (.int .i64), .srow 11 1000011 3 true (.int .i64), .sv 12 true (.int .i64), .sv 13 true (.int .i64), .sv 14 true (.int .i64), .sv 16 true (.int .i64)], xid := 4, out := [.sv 0 false (.sl (.arr 2 (.int .i64))), .sv 1 false (.sl (.int .i64)), .sv 4 false (.int .i64), .srow 11 1000011 3 true (.int .i64), .sv 12 true (.int .i64), .sv 13 true (.int .i64), .sv 14 true (.int .i64)], hasRet := false, res := [] }), (24, { head := [.sv 0 false (.sl (.arr 2 (.int .i64))), .sv 1 false (.sl (.int .i64)), .sv 4 false (.int .i64), .srow 11 1000011 3 true (.int .i64), .sv 12 true (.int .i64), .sv 13 true (.int .i64), .sv 14 true (.int .i64), .sv 17 true (.int .i64), .sv 18 true (.int .i64)], xid := 8, out := [.sv 0 false (.sl (.arr 2 (.int .i64))), .sv 1 false (.sl (.int .i64)), .sv 4 false (.int .i64), .srow 11 1000011 3 true (.int .i64), .sv 12 true (.int .i64), .sv 13 true (.int .i64), .sv 14 true (.int .i64), .sv 17 true (.int .i64)], hasRet := false, res := [] }), (20, { head := [.sv 0 false (.sl (.arr 2 (.int .i64))), .sv 1 false (.sl (.int .i64)), .sv 4 false (.int .i64), .srow 11 1000011 3 true (.int .i64), .sv 12 true (.int .i64), .sv 13 true (.int .i64), .sv 14 true (.int .i64), .sv 17 true (.int .i64)], xid := 6, out := [.sv 0 false (.sl (.arr 2 (.int .i64))), .sv 1 false (.sl (.int .i64)), .sv 4 false (.int .i64), .srow 11 1000011 3 true (.int .i64), .sv 12 true (.int .i64), .sv 13 true (.int .i64)], hasRet := false, res := [] }), (4, { head := [.sv 0 false (.sl (.arr 2 (.int .i64))), .sv 1 false (.sl (.int .i64)), .sv 4 false (.int .i64), .srow 11 1000011 3 true (.int .i64), .sv 12 true (.int .i64), .sv 13 true (.int .i64)], xid := 0, out := [.srow 11 1000011 3 true (.int .i64)], hasRet := false, res := [] })]
noncomputable def ref14_Brackets_C : List (Nat × Callee) := [(21, .plain ref14_copied_fun), (22, .plain ref14_side_fun), (23, .plain ref14_context_fun)]
noncomputable def ref14_Brackets_fun : Fun := ⟨[.sl (.arr 2 (.int .i64)), .sl (.int .i64), .sl (.int .i64), .int .i64, .int .i64], [.row 3 (.int .i64)], fun x => ref14_Brackets_F x.1 x.2.1 x.2.2.1 x.2.2.2.1 x.2.2.2.2.1⟩
theorem ref14_Brackets_ev (x : Tys.I [.sl (.arr 2 (.int .i64)), .sl (.int .i64), .sl (.int .i64), .int .i64, .int .i64]) : evFun G0 (fun f => olook f ref14_Brackets_C) ⟨[], [], [], [], [], []⟩ (fun i => olook i ref14_Brackets_L) Tryd.f12 [.sl (.arr 2 (.int .i64)), .sl (.int .i64), .sl (.int .i64), .int .i64, .int .i64] [.row 3 (.int .i64)] x = ref14_Brackets_T x.1 x.2.1 x.2.2.1 x.2.2.2.1 x.2.2.2.2.1 := by kernel_rfl
theorem ref14_Brackets_ok : FunOk Tryd.prog 12 ref14_Brackets_fun := evFun_ok mixed ctx0 (cons_calls (fb := .plain ref14_copied_fun) ref14_copied_ok (fun h => by cases h) (cons_calls (fb := .plain ref14_side_fun) ref14_side_ok (fun h => by cases h) (cons_calls (fb := .plain ref14_context_fun) ref14_context_ok (fun h => by cases h) (no_calls)))) Tryd.func12 (by kernel_rfl) _ (fun x => congrArg Tr.run (ref14_Brackets_ev x)) (by kernel_rfl) (by kernel_rfl)
/-! ### boustrophedon/boustrophedonref04.Mirrors -/
noncomputable def ref04_Mirrors_T : Tr (List (List Int)) :=
  .pure ([[40, 41], [60, 62], [91, 93], [123, 125], [171, 187], [8249, 8250], [8261, 8262], [8317, 8318], [8333, 8334], [8712, 8715], [8713, 8716], [8804, 8805], [8806, 8807], [8810, 8811], [8834, 8835], [8838, 8839], [8968, 8969], [8970, 8971], [9001, 9002], [10214, 10215], [10216, 10217], [10218, 10219], [10627, 10628], [12296, 12297], [12298, 12299], [12300, 12301], [12302, 12303], [12304, 12305], [12308, 12309], [12310, 12311], [65288, 65289], [65308, 65310], [65339, 65341], [65371, 65373], [65378, 65379]])
noncomputable def ref04_Mirrors_F : Option (List (List Int)) := (ref04_Mirrors_T).run
def ref04_Mirrors_L : List (Nat × LoopAnn) := []
noncomputable def ref04_Mirrors_C : List (Nat × Callee) := []
noncomputable def ref04_Mirrors_fun : Fun := ⟨[], [.row 46 (.arr 2 (.int .i64))], fun _ => ref04_Mirrors_F⟩
theorem ref04_Mirrors_ev (x : Tys.I []) : evFun G0 (fun f => olook f ref04_Mirrors_C) ⟨[], [], [], [], [], []⟩ (fun i => olook i ref04_Mirrors_L) Tryd.f33 [] [.row 46 (.arr 2 (.int .i64))] x = ref04_Mirrors_T := by kernel_rfl
theorem ref04_Mirrors_ok : FunOk Tryd.prog 33 ref04_Mirrors_fun := evFun_ok mixed ctx0 (no_calls) Tryd.func33 (by kernel_rfl) _ (fun x => congrArg Tr.run (ref04_Mirrors_ev x)) (by kernel_rfl) (by kernel_rfl)
/-! ### boustrophedon/boustrophedonref04.Plain -/
noncomputable def ref04_Plain_T : Tr (List Int) :=
  .pure ([60, 171, 8249, 8712, 8713, 8804, 8806, 8810, 8834, 8838, 65308])
noncomputable def ref04_Plain_F : Option (List Int) := (ref04_Plain_T).run
def ref04_Plain_L : List (Nat × LoopAnn) := []
noncomputable def ref04_Plain_C : List (Nat × Callee) := []
noncomputable def ref04_Plain_fun : Fun := ⟨[], [.row 3 (.int .i64)], fun _ => ref04_Plain_F⟩
theorem ref04_Plain_ev (x : Tys.I []) : evFun G0 (fun f => olook f ref04_Plain_C) ⟨[], [], [], [], [], []⟩ (fun i => olook i ref04_Plain_L) Tryd.f34 [] [.row 3 (.int .i64)] x = ref04_Plain_T := by kernel_rfl
theorem ref04_Plain_ok : FunOk Tryd.prog 34 ref04_Plain_fun := evFun_ok mixed ctx0 (no_calls) Tryd.func34 (by kernel_rfl) _ (fun x => congrArg Tr.run (ref04_Plain_ev x)) (by kernel_rfl) (by kernel_rfl)
/-! ### boustrophedon/boustrophedonref04.Bracket -/
noncomputable def ref04_Bracket_L8 (r0 : Int) (t4 : List (List Int)) (k5 : Int) (p6 : List Int) (i7 : Int) : Tr (Lap (Int × List (List Int) × Int × List Int × Int) (Sum (Int × List (List Int) × Int) (Int × Int))) :=
  .br (decide (i7 < (p6.length : Int))) (
    .bnd (idx p6 i7) fun x_7 =>
    .bnd (idx t4 k5) fun x_8 =>
    .bnd (idx x_8 0) fun x_9 =>
    .br (x_7 == x_9) (
      .pure (.done (.inr (0, 0)))) (
      .pure (.next (r0, t4, k5, p6, IntKind.i64.wrap (i7 + 1))))) (
    .pure (.done (.inl (r0, t4, k5))))
noncomputable def ref04_Bracket_L3 (r0 : Int) (t4 : List (List Int)) (k5 : Int) : Tr (Lap (Int × List (List Int) × Int) (Sum Unit (Int × Int))) :=
  .br (decide (k5 < (t4.length : Int))) (
    .bnd (idx t4 k5) fun x_2 =>
    .bnd (idx x_2 0) fun x_3 =>
    .br (x_3 != r0) (
      .bnd (idx t4 k5) fun x_4 =>
      .bnd (idx x_4 1) fun x_5 =>
      .br (x_5 != r0) (
        .pure (.next (r0, t4, IntKind.i64.wrap (k5 + 1)))) (
        .bnd ref04_Plain_F fun c_6 =>
        .alt (loopW (fun s => (ref04_Bracket_L8 s.1 s.2.1 s.2.2.1 s.2.2.2.1 s.2.2.2.2).run) (r0, t4, k5, c_6, 0)) (fun l_10 =>
          .bnd (idx l_10.2.1 l_10.2.2) fun x_11 =>
          .bnd (idx x_11 0) fun x_12 =>
          .br (x_12 == 9001) (
            .bnd (idx l_10.2.1 l_10.2.2) fun x_13 =>
            .bnd (idx x_13 0) fun x_14 =>
            .br (x_14 == l_10.1) (
              .pure (.done (.inr (1, 12296)))) (
              .pure (.done (.inr (2, 12296))))) (
            .bnd (idx l_10.2.1 l_10.2.2) fun x_15 =>
            .bnd (idx x_15 0) fun x_16 =>
            .br (x_16 == l_10.1) (
              .pure (.done (.inr (1, x_12)))) (
              .pure (.done (.inr (2, x_12)))))) (fun l_17 =>
          .pure (.done (.inr (l_17.1, l_17.2)))))) (
      .bnd ref04_Plain_F fun c_18 =>
      .alt (loopW (fun s => (ref04_Bracket_L8 s.1 s.2.1 s.2.2.1 s.2.2.2.1 s.2.2.2.2).run) (r0, t4, k5, c_18, 0)) (fun l_19 =>
        .bnd (idx l_19.2.1 l_19.2.2) fun x_20 =>
        .bnd (idx x_20 0) fun x_21 =>
        .br (x_21 == 9001) (
          .bnd (idx l_19.2.1 l_19.2.2) fun x_22 =>
          .bnd (idx x_22 0) fun x_23 =>
          .br (x_23 == l_19.1) (
            .pure (.done (.inr (1, 12296)))) (
            .pure (.done (.inr (2, 12296))))) (
          .bnd (idx l_19.2.1 l_19.2.2) fun x_24 =>
          .bnd (idx x_24 0) fun x_25 =>
          .br (x_25 == l_19.1) (
            .pure (.done (.inr (1, x_21)))) (
            .pure (.done (.inr (2, x_21)))))) (fun l_26 =>
        .pure (.done (.inr (l_26.1, l_26.2)))))) (
    .pure (.done (.inl ())))
noncomputable def ref04_Bracket_T (r0 : Int) : Tr (Int × Int) :=
  .bnd ref04_Mirrors_F fun c_1 =>
  .alt (loopW (fun s => (ref04_Bracket_L3 s.1 s.2.1 s.2.2).run) (r0, c_1, 0)) (fun l_27 =>
    .pure (0, 0)) (fun l_28 =>
    .pure (l_28.1, l_28.2))
noncomputable def ref04_Bracket_F (r0 : Int) : Option (Int × Int) := (ref04_Bracket_T r0).run
def ref04_Bracket_L : List (Nat × LoopAnn) := [(8, { head := [.sv 0 false (.int .i64), .srow 4 1000004 46 true (.arr 2 (.int .i64)), .sv 5 true (.int .i64), .srow 6 1000006 3 true (.int .i64), .sv 7 true (.int .i64)], xid := 2, out := [.sv 0 false (.int .i64), .srow 4 1000004 46 true (.arr 2 (.int .i64)), .sv 5 true (.int .i64)], hasRet := true, res := [.sv 2 true (.int .i64), .sv 3 true (.int .i64)] }), (3, { head := [.sv 0 false (.int .i64), .srow 4 1000004 46 true (.arr 2 (.int .i64)), .sv 5 true (.int .i64)], xid := 0, out := [], hasRet := true, res := [.sv 2 true (.int .i64), .sv 3 true (.int .i64)] })]
noncomputable def ref04_Bracket_C : List (Nat × Callee) := [(33, .plain ref04_Mirrors_fun), (34, .plain ref04_Plain_fun)]
noncomputable def ref04_Bracket_fun : Fun := ⟨[.int .i64], [.v (.int .i64), .v (.int .i64)], fun x => ref04_Bracket_F x.1⟩
theorem ref04_Bracket_ev (x : Tys.I [.int .i64]) : evFun G0 (fun f => olook f ref04_Bracket_C) ⟨[], [], [], [], [], []⟩ (fun i => olook i ref04_Bracket_L) Tryd.f24 [.int .i64] [.v (.int .i64), .v (.int .i64)] x = ref04_Bracket_T x.1 := by kernel_rfl
theorem ref04_Bracket_ok : FunOk Tryd.prog 24 ref04_Bracket_fun := evFun_ok mixed ctx0 (cons_calls (fb := .plain ref04_Mirrors_fun) ref04_Mirrors_ok (fun h => by cases h) (cons_calls (fb := .plain ref04_Plain_fun) ref04_Plain_ok (fun h => by cases h) (no_calls))) Tryd.func24 (by kernel_rfl) _ (fun x => congrArg Tr.run (ref04_Bracket_ev x)) (by kernel_rfl) (by kernel_rfl)
/-! ### boustrophedon/boustrophedonref14.Pairs -/
noncomputable def ref14_Pairs_L3 (sides0 : List Int) (ids1 : List Int) (mate5 : List Int) (k6 : Int) : Tr (Lap (List Int × List Int × List Int × Int) (List Int × List Int × List Int)) :=
  .br (decide (k6 < (mate5.length : Int))) (
    .bnd (idx mate5 k6) fun x_2 =>
    .pure (.next (sides0, ids1, mate5.set (Int.toNat k6) (-1), IntKind.i64.wrap (k6 + 1)))) (
    .pure (.done (sides0, ids1, mate5)))
noncomputable def ref14_Pairs_L15 (sides0 : List Int) (ids1 : List Int) (mate5 : List Int) (stack7 : List Int) (k8 : Int) (at9 : Int) : Tr (Lap (List Int × List Int × List Int × List Int × Int × Int) (List Int × List Int × List Int × List Int × Int × Int)) :=
  .br (decide (at9 ≥ 0)) (
    .bnd (idx stack7 at9) fun x_7 =>
    .bnd (idx ids1 x_7) fun x_8 =>
    .bnd (idx ids1 k8) fun x_9 =>
    .br (x_8 != x_9) (
      .pure (.next (sides0, ids1, mate5, stack7, k8, IntKind.i64.wrap (at9 - 1)))) (
      .pure (.done (sides0, ids1, mate5, stack7, k8, at9)))) (
    .pure (.done (sides0, ids1, mate5, stack7, k8, at9)))
noncomputable def ref14_Pairs_L8 (sides0 : List Int) (ids1 : List Int) (mate5 : List Int) (stack7 : List Int) (k8 : Int) : Tr (Lap (List Int × List Int × List Int × List Int × Int) (List Int)) :=
  .br (decide (k8 < (sides0.length : Int))) (
    .bnd (idx sides0 k8) fun x_4 =>
    .br (x_4 == 1) (
      .br ((stack7.length : Int) == 63) (
        .pure (.done mate5)) (
        .bnd (app 17592186044416 stack7 ([k8])) fun r_5 =>
        .bnd (idx sides0 k8) fun x_6 =>
        .br (x_6 != 2) (
          .pure (.next (sides0, ids1, mate5, r_5, IntKind.i64.wrap (k8 + 1)))) (
          .bnd (loopW (fun s => (ref14_Pairs_L15 s.1 s.2.1 s.2.2.1 s.2.2.2.1 s.2.2.2.2.1 s.2.2.2.2.2).run) (sides0, ids1, mate5, r_5, k8, IntKind.i64.wrap ((r_5.length : Int) - 1))) fun l_10 =>
          .br (decide (l_10.2.2.2.2.2 ≥ 0)) (
            .bnd (idx l_10.2.2.2.1 l_10.2.2.2.2.2) fun x_11 =>
            .bnd (idx l_10.2.2.1 x_11) fun x_12 =>
            .bnd (cut l_10.2.2.2.1 0 l_10.2.2.2.2.2) fun r_13 =>
            .pure (.next (l_10.1, l_10.2.1, l_10.2.2.1.set (Int.toNat x_11) l_10.2.2.2.2.1, r_13, IntKind.i64.wrap (l_10.2.2.2.2.1 + 1)))) (
            .pure (.next (l_10.1, l_10.2.1, l_10.2.2.1, l_10.2.2.2.1, IntKind.i64.wrap (l_10.2.2.2.2.1 + 1))))))) (
      .bnd (idx sides0 k8) fun x_14 =>
      .br (x_14 != 2) (
        .pure (.next (sides0, ids1, mate5, stack7, IntKind.i64.wrap (k8 + 1)))) (
        .bnd (loopW (fun s => (ref14_Pairs_L15 s.1 s.2.1 s.2.2.1 s.2.2.2.1 s.2.2.2.2.1 s.2.2.2.2.2).run) (sides0, ids1, mate5, stack7, k8, IntKind.i64.wrap ((stack7.length : Int) - 1))) fun l_15 =>
        .br (decide (l_15.2.2.2.2.2 ≥ 0)) (
          .bnd (idx l_15.2.2.2.1 l_15.2.2.2.2.2) fun x_16 =>
          .bnd (idx l_15.2.2.1 x_16) fun x_17 =>
          .bnd (cut l_15.2.2.2.1 0 l_15.2.2.2.2.2) fun r_18 =>
          .pure (.next (l_15.1, l_15.2.1, l_15.2.2.1.set (Int.toNat x_16) l_15.2.2.2.2.1, r_18, IntKind.i64.wrap (l_15.2.2.2.2.1 + 1)))) (
          .pure (.next (l_15.1, l_15.2.1, l_15.2.2.1, l_15.2.2.2.1, IntKind.i64.wrap (l_15.2.2.2.2.1 + 1))))))) (
    .pure (.done mate5))
noncomputable def ref14_Pairs_L22 (mate5 : List Int) (out10 : List (List Int)) (k11 : Int) : Tr (Lap (List Int × List (List Int) × Int) (List (List Int))) :=
  .br (decide (k11 < (mate5.length : Int))) (
    .bnd (idx mate5 k11) fun x_20 =>
    .br (decide (x_20 ≥ 0)) (
      .bnd (idx mate5 k11) fun x_21 =>
      .bnd (app 8796093022208 out10 ([[k11, x_21]])) fun r_22 =>
      .pure (.next (mate5, r_22, IntKind.i64.wrap (k11 + 1)))) (
      .pure (.next (mate5, out10, IntKind.i64.wrap (k11 + 1))))) (
    .pure (.done out10))
noncomputable def ref14_Pairs_T (sides0 : List Int) (ids1 : List Int) : Tr (List (List Int)) :=
  .bnd (mk 17592186044416 0 (sides0.length : Int)) fun r_1 =>
  .bnd (loopW (fun s => (ref14_Pairs_L3 s.1 s.2.1 s.2.2.1 s.2.2.2).run) (sides0, ids1, r_1, 0)) fun l_3 =>
  .bnd (loopW (fun s => (ref14_Pairs_L8 s.1 s.2.1 s.2.2.1 s.2.2.2.1 s.2.2.2.2).run) (l_3.1, l_3.2.1, l_3.2.2, [], 0)) fun l_19 =>
  .bnd (loopW (fun s => (ref14_Pairs_L22 s.1 s.2.1 s.2.2).run) (l_19, [], 0)) fun l_23 =>
  .pure l_23
noncomputable def ref14_Pairs_F (sides0 : List Int) (ids1 : List Int) : Option (List (List Int)) := (ref14_Pairs_T sides0 ids1).run
def ref14_Pairs_L : List (Nat × LoopAnn) := [(3, { head := [.sv 0 false (.sl (.int .i64)), .sv 1 false (.sl (.int .i64)), .srow 5 1000005 3 true (.int .i64), .sv 6 true (.int .i64)], xid := 0, out := [.sv 0 false (.sl (.int .i64)), .sv 1 false (.sl (.int .i64)), .srow 5 1000005 3 true (.int .i64)], hasRet := false, res := [] }), (15, { head := [.sv 0 false (.sl (.int .i64)), .sv 1 false (.sl (.int .i64)), .srow 5 1000005 3 true (.int .i64), .srow 7 1000007 3 true (.int .i64), .sv 8 true (.int .i64), .sv 9 true (.int .i64)], xid := 4, out := [.sv 0 false (.sl (.int .i64)), .sv 1 false (.sl (.int .i64)), .srow 5 1000005 3 true (.int .i64), .srow 7 1000007 3 true (.int .i64), .sv 8 true (.int .i64), .sv 9 true (.int .i64)], hasRet := false, res := [] }), (8, { head := [.sv 0 false (.sl (.int .i64)), .sv 1 false (.sl (.int .i64)), .srow 5 1000005 3 true (.int .i64), .srow 7 1000007 3 true (.int .i64), .sv 8 true (.int .i64)], xid := 2, out := [.srow 5 1000005 3 true (.int .i64)], hasRet := false, res := [] }), (22, { head := [.srow 5 1000005 3 true (.int .i64), .srow 10 1000010 46 true (.arr 2 (.int .i64)), .sv 11 true (.int .i64)], xid := 6, out := [.srow 10 1000010 46 true (.arr 2 (.int .i64))], hasRet := false, res := [] })]
noncomputable def ref14_Pairs_C : List (Nat × Callee) := []
noncomputable def ref14_Pairs_fun : Fun := ⟨[.sl (.int .i64), .sl (.int .i64)], [.row 46 (.arr 2 (.int .i64))], fun x => ref14_Pairs_F x.1 x.2.1⟩
theorem ref14_Pairs_ev (x : Tys.I [.sl (.int .i64), .sl (.int .i64)]) : evFun G0 (fun f => olook f ref14_Pairs_C) ⟨[79], [], [], [], [], []⟩ (fun i => olook i ref14_Pairs_L) Tryd.f25 [.sl (.int .i64), .sl (.int .i64)] [.row 46 (.arr 2 (.int .i64))] x = ref14_Pairs_T x.1 x.2.1 := by kernel_rfl
theorem ref14_Pairs_ok : FunOk Tryd.prog 25 ref14_Pairs_fun := evFun_ok mixed ctx0 (no_calls) Tryd.func25 (by kernel_rfl) _ (fun x => congrArg Tr.run (ref14_Pairs_ev x)) (by kernel_rfl) (by kernel_rfl)
/-! ### boustrophedon/boustrophedonlaw15.Want -/
noncomputable def law15_Want_L3 (rs0 : List Int) (cs1 : List Int) (sides5 : List Int) (ids6 : List Int) (k7 : Int) : Tr (Lap (List Int × List Int × List Int × List Int × Int) (List Int × List Int)) :=
  .br (decide (k7 < (rs0.length : Int))) (
    .br (decide (k7 < (cs1.length : Int))) (
      .bnd (idx rs0 k7) fun x_1 =>
      .bnd (ref04_Bracket_F (IntKind.i64.wrap x_1)) fun c_2 =>
      .bnd (idx cs1 k7) fun x_3 =>
      .br (x_3 != 13) (
        .bnd (app 17592186044416 sides5 ([0])) fun r_4 =>
        .bnd (app 17592186044416 ids6 ([c_2.2])) fun r_5 =>
        .pure (.next (rs0, cs1, r_4, r_5, IntKind.i64.wrap (k7 + 1)))) (
        .bnd (app 17592186044416 sides5 ([c_2.1])) fun r_6 =>
        .bnd (app 17592186044416 ids6 ([c_2.2])) fun r_7 =>
        .pure (.next (rs0, cs1, r_6, r_7, IntKind.i64.wrap (k7 + 1))))) (
      .pure (.done (sides5, ids6)))) (
    .pure (.done (sides5, ids6)))
noncomputable def law15_Want_T (rs0 : List Int) (cs1 : List Int) : Tr (List (List Int)) :=
  .bnd (loopW (fun s => (law15_Want_L3 s.1 s.2.1 s.2.2.1 s.2.2.2.1 s.2.2.2.2).run) (rs0, cs1, [], [], 0)) fun l_8 =>
  .bnd (ref14_Pairs_F l_8.1 l_8.2) fun c_9 =>
  .pure c_9
noncomputable def law15_Want_F (rs0 : List Int) (cs1 : List Int) : Option (List (List Int)) := (law15_Want_T rs0 cs1).run
def law15_Want_L : List (Nat × LoopAnn) := [(3, { head := [.sv 0 false (.sl (.int .i32)), .sv 1 false (.sl (.int .u8)), .srow 5 1000005 3 true (.int .i64), .srow 6 1000006 3 true (.int .i64), .sv 7 true (.int .i64)], xid := 0, out := [.srow 5 1000005 3 true (.int .i64), .srow 6 1000006 3 true (.int .i64)], hasRet := false, res := [] })]
noncomputable def law15_Want_C : List (Nat × Callee) := [(24, .plain ref04_Bracket_fun), (25, .plain ref14_Pairs_fun)]
noncomputable def law15_Want_fun : Fun := ⟨[.sl (.int .i32), .sl (.int .u8)], [.row 46 (.arr 2 (.int .i64))], fun x => law15_Want_F x.1 x.2.1⟩
theorem law15_Want_ev (x : Tys.I [.sl (.int .i32), .sl (.int .u8)]) : evFun G0 (fun f => olook f law15_Want_C) ⟨[], [], [], [], [], []⟩ (fun i => olook i law15_Want_L) Tryd.f13 [.sl (.int .i32), .sl (.int .u8)] [.row 46 (.arr 2 (.int .i64))] x = law15_Want_T x.1 x.2.1 := by kernel_rfl
theorem law15_Want_ok : FunOk Tryd.prog 13 law15_Want_fun := evFun_ok mixed ctx0 (cons_calls (fb := .plain ref04_Bracket_fun) ref04_Bracket_ok (fun h => by cases h) (cons_calls (fb := .plain ref14_Pairs_fun) ref14_Pairs_ok (fun h => by cases h) (no_calls))) Tryd.func13 (by kernel_rfl) _ (fun x => congrArg Tr.run (law15_Want_ev x)) (by kernel_rfl) (by kernel_rfl)
/-! ### boustrophedon/boustrophedonlaw10.Ints -/
noncomputable def law10_Ints_L3 (out3 : List Int) (t6 : List Int) (t7 : Int) (t8 : Int) : Tr (Lap (List Int × List Int × Int × Int) (List Int)) :=
  .br (decide (t8 < t7)) (
    .bnd (idx t6 t8) fun x_1 =>
    .bnd (app 17592186044416 out3 ([IntKind.i64.wrap x_1])) fun r_2 =>
    .pure (.next (r_2, t6, t7, IntKind.i64.wrap (t8 + 1)))) (
    .pure (.done out3))
noncomputable def law10_Ints_T (cs0 : List Int) : Tr (List Int) :=
  .bnd (loopW (fun s => (law10_Ints_L3 s.1 s.2.1 s.2.2.1 s.2.2.2).run) ([], cs0, (cs0.length : Int), 0)) fun l_3 =>
  .pure l_3
noncomputable def law10_Ints_F (cs0 : List Int) : Option (List Int) := (law10_Ints_T cs0).run
def law10_Ints_L : List (Nat × LoopAnn) := [(3, { head := [.srow 3 1000003 3 true (.int .i64), .sv 6 false (.sl (.int .u8)), .sv 7 true (.int .i64), .sv 8 true (.int .i64)], xid := 0, out := [.srow 3 1000003 3 true (.int .i64)], hasRet := false, res := [] })]
noncomputable def law10_Ints_C : List (Nat × Callee) := []
noncomputable def law10_Ints_fun : Fun := ⟨[.sl (.int .u8)], [.row 3 (.int .i64)], fun x => law10_Ints_F x.1⟩
theorem law10_Ints_ev (x : Tys.I [.sl (.int .u8)]) : evFun G0 (fun f => olook f law10_Ints_C) ⟨[], [], [], [], [], []⟩ (fun i => olook i law10_Ints_L) Tryd.f14 [.sl (.int .u8)] [.row 3 (.int .i64)] x = law10_Ints_T x.1 := by kernel_rfl
theorem law10_Ints_ok : FunOk Tryd.prog 14 law10_Ints_fun := evFun_ok mixed ctx0 (no_calls) Tryd.func14 (by kernel_rfl) _ (fun x => congrArg Tr.run (law10_Ints_ev x)) (by kernel_rfl) (by kernel_rfl)
/-! ### boustrophedon/boustrophedonlaw14.Like -/
noncomputable def law14_Like_L4 (cs0 : List Int) (want1 : List Int) (k5 : Int) : Tr (Lap (List Int × List Int × Int) (Sum Unit Bool)) :=
  .br (decide (k5 < (cs0.length : Int))) (
    .bnd (idx cs0 k5) fun x_1 =>
    .bnd (idx want1 k5) fun x_2 =>
    .br ((IntKind.i64.wrap x_1) != x_2) (
      .pure (.done (.inr false))) (
      .pure (.next (cs0, want1, IntKind.i64.wrap (k5 + 1))))) (
    .pure (.done (.inl ())))
noncomputable def law14_Like_T (cs0 : List Int) (want1 : List Int) : Tr Bool :=
  .br ((cs0.length : Int) != (want1.length : Int)) (
    .pure false) (
    .alt (loopW (fun s => (law14_Like_L4 s.1 s.2.1 s.2.2).run) (cs0, want1, 0)) (fun l_3 =>
      .pure true) (fun l_4 =>
      .pure l_4))
noncomputable def law14_Like_F (cs0 : List Int) (want1 : List Int) : Option Bool := (law14_Like_T cs0 want1).run
def law14_Like_L : List (Nat × LoopAnn) := [(4, { head := [.sv 0 false (.sl (.int .u8)), .sv 1 false (.sl (.int .i64)), .sv 5 true (.int .i64)], xid := 0, out := [], hasRet := true, res := [.sv 4 true .bool] })]
noncomputable def law14_Like_C : List (Nat × Callee) := []
noncomputable def law14_Like_fun : Fun := ⟨[.sl (.int .u8), .sl (.int .i64)], [.v .bool], fun x => law14_Like_F x.1 x.2.1⟩
theorem law14_Like_ev (x : Tys.I [.sl (.int .u8), .sl (.int .i64)]) : evFun G0 (fun f => olook f law14_Like_C) ⟨[], [], [], [], [], []⟩ (fun i => olook i law14_Like_L) Tryd.f15 [.sl (.int .u8), .sl (.int .i64)] [.v .bool] x = law14_Like_T x.1 x.2.1 := by kernel_rfl
theorem law14_Like_ok : FunOk Tryd.prog 15 law14_Like_fun := evFun_ok mixed ctx0 (no_calls) Tryd.func15 (by kernel_rfl) _ (fun x => congrArg Tr.run (law14_Like_ev x)) (by kernel_rfl) (by kernel_rfl)
/-! ### boustrophedon/boustrophedonlaw16.NeutralBrackets -/
noncomputable def law16_NeutralBrackets_T (rs0 : List Int) (ns1 : List Int) (ms2 : List Int) (level3 : Int) (right4 : Bool) : Tr Bool :=
  .bnd law16_awake_F fun c_1 =>
  .br (!c_1) (
    .pure false) (
    .bnd (law16_Cut_F rs0 ns1 ms2) fun c_2 =>
    .bnd (law14_Side_F right4) fun c_3 =>
    .bnd (law15_Want_F c_2.1 c_2.2.2) fun c_4 =>
    .bnd (law10_Ints_F c_2.2.1) fun c_5 =>
    .bnd (law10_Ints_F c_2.2.2) fun c_6 =>
    .bnd (ref14_Brackets_F c_4 c_5 c_6 (IntKind.i64.wrap (level3.tmod 126)) (IntKind.i64.wrap c_3)) fun c_7 =>
    .bnd (neutral_Brackets_F c_2.1 c_2.2.1 c_2.2.2 (IntKind.i64.wrap (level3.tmod 126)) c_3) fun c_8 =>
    .bnd (law14_Like_F c_8 c_7) fun c_9 =>
    .br (!c_9) (
      .pure false) (
      .bnd (law08_Classes_F ms2) fun c_10 =>
      .br ((rs0.length : Int) == (c_10.length : Int)) (
        .br ((ns1.length : Int) == (c_10.length : Int)) (
          .pure true) (
          .bnd (law08_Classes_F ns1) fun c_11 =>
          .bnd (neutral_Brackets_F rs0 c_11 c_10 (IntKind.i64.wrap (level3.tmod 126)) c_3) fun c_12 =>
          .bnd (law10_Ints_F c_10) fun c_13 =>
          .bnd (law14_Like_F c_12 c_13) fun c_14 =>
          .pure c_14)) (
        .bnd (law08_Classes_F ns1) fun c_15 =>
        .bnd (neutral_Brackets_F rs0 c_15 c_10 (IntKind.i64.wrap (level3.tmod 126)) c_3) fun c_16 =>
        .bnd (law10_Ints_F c_10) fun c_17 =>
        .bnd (law14_Like_F c_16 c_17) fun c_18 =>
        .pure c_18)))
noncomputable def law16_NeutralBrackets_F (rs0 : List Int) (ns1 : List Int) (ms2 : List Int) (level3 : Int) (right4 : Bool) : Option Bool := (law16_NeutralBrackets_T rs0 ns1 ms2 level3 right4).run
def law16_NeutralBrackets_L : List (Nat × LoopAnn) := []
noncomputable def law16_NeutralBrackets_C : List (Nat × Callee) := [(9, .plain law16_awake_fun), (10, .old law16_Cut_fun), (11, .plain law14_Side_fun), (13, .plain law15_Want_fun), (14, .plain law10_Ints_fun), (12, .plain ref14_Brackets_fun), (16, .plain neutral_Brackets_fun), (15, .plain law14_Like_fun), (17, .plain law08_Classes_fun)]
noncomputable def law16_NeutralBrackets_fun : Fun := ⟨[.sl (.int .i32), .sl (.int .u8), .sl (.int .u8), .int .u8, .bool], [.v .bool], fun x => law16_NeutralBrackets_F x.1 x.2.1 x.2.2.1 x.2.2.2.1 x.2.2.2.2.1⟩
theorem law16_NeutralBrackets_ev (x : Tys.I [.sl (.int .i32), .sl (.int .u8), .sl (.int .u8), .int .u8, .bool]) : evFun G0 (fun f => olook f law16_NeutralBrackets_C) ⟨[], [], [], [], [], []⟩ (fun i => olook i law16_NeutralBrackets_L) Tryd.f3 [.sl (.int .i32), .sl (.int .u8), .sl (.int .u8), .int .u8, .bool] [.v .bool] x = law16_NeutralBrackets_T x.1 x.2.1 x.2.2.1 x.2.2.2.1 x.2.2.2.2.1 := by kernel_rfl
theorem law16_NeutralBrackets_ok : FunOk Tryd.prog 3 law16_NeutralBrackets_fun := evFun_ok mixed ctx0 (cons_calls (fb := .plain law16_awake_fun) law16_awake_ok (fun h => by cases h) (cons_calls (fb := .old law16_Cut_fun) law16_Cut_ok (fun h => by cases h) (cons_calls (fb := .plain law14_Side_fun) law14_Side_ok (fun h => by cases h) (cons_calls (fb := .plain law15_Want_fun) law15_Want_ok (fun h => by cases h) (cons_calls (fb := .plain law10_Ints_fun) law10_Ints_ok (fun h => by cases h) (cons_calls (fb := .plain ref14_Brackets_fun) ref14_Brackets_ok (fun h => by cases h) (cons_calls (fb := .plain neutral_Brackets_fun) neutral_Brackets_ok (fun h => by cases h) (cons_calls (fb := .plain law14_Like_fun) law14_Like_ok (fun h => by cases h) (cons_calls (fb := .plain law08_Classes_fun) law08_Classes_ok (fun h => by cases h) (no_calls)))))))))) Tryd.func3 (by kernel_rfl) _ (fun x => congrArg Tr.run (law16_NeutralBrackets_ev x)) (by kernel_rfl) (by kernel_rfl)
/-! ### boustrophedon/boustrophedonlaw16.NeutralPlain -/
noncomputable def law16_NeutralPlain_L5 (level2 : Int) (right3 : Bool) (s9 : List Int) (cs10 : List Int) (k12 : Int) : Tr (Lap (Int × Bool × List Int × List Int × Int) (Int × Bool × List Int × List Int)) :=
  .br (decide (k12 < (s9.length : Int))) (
    .bnd (idx s9 k12) fun x_3 =>
    .br (x_3 == 40) (
      .bnd (idx cs10 k12) fun x_4 =>
      .pure (.next (level2, right3, s9, cs10.set (Int.toNat k12) 13, IntKind.i64.wrap (k12 + 1)))) (
      .bnd (idx s9 k12) fun x_5 =>
      .br (x_5 == 41) (
        .bnd (idx cs10 k12) fun x_6 =>
        .pure (.next (level2, right3, s9, cs10.set (Int.toNat k12) 13, IntKind.i64.wrap (k12 + 1)))) (
        .bnd (idx s9 k12) fun x_7 =>
        .br (x_7 == 91) (
          .bnd (idx cs10 k12) fun x_8 =>
          .pure (.next (level2, right3, s9, cs10.set (Int.toNat k12) 13, IntKind.i64.wrap (k12 + 1)))) (
          .bnd (idx s9 k12) fun x_9 =>
          .br (x_9 == 93) (
            .bnd (idx cs10 k12) fun x_10 =>
            .pure (.next (level2, right3, s9, cs10.set (Int.toNat k12) 13, IntKind.i64.wrap (k12 + 1)))) (
            .pure (.next (level2, right3, s9, cs10, IntKind.i64.wrap (k12 + 1)))))))) (
    .pure (.done (level2, right3, s9, cs10)))
noncomputable def law16_NeutralPlain_T (rs0 : List Int) (ns1 : List Int) (level2 : Int) (right3 : Bool) : Tr Bool :=
  .bnd law16_awake_F fun c_1 =>
  .br (!c_1) (
    .pure false) (
    .bnd (law16_Cut_F rs0 ns1 ns1) fun c_2 =>
    .bnd (loopW (fun s => (law16_NeutralPlain_L5 s.1 s.2.1 s.2.2.1 s.2.2.2.1 s.2.2.2.2).run) (level2, right3, c_2.1, c_2.2.1, 0)) fun l_11 =>
    .bnd (law14_Side_F l_11.2.1) fun c_12 =>
    .bnd (law15_Want_F l_11.2.2.1 l_11.2.2.2) fun c_13 =>
    .bnd (law10_Ints_F l_11.2.2.2) fun c_14 =>
    .bnd (law10_Ints_F l_11.2.2.2) fun c_15 =>
    .bnd (ref14_Brackets_F c_13 c_14 c_15 (IntKind.i64.wrap (l_11.1.tmod 126)) (IntKind.i64.wrap c_12)) fun c_16 =>
    .bnd (neutral_Brackets_F l_11.2.2.1 l_11.2.2.2 l_11.2.2.2 (IntKind.i64.wrap (l_11.1.tmod 126)) c_12) fun c_17 =>
    .bnd (law14_Like_F c_17 c_16) fun c_18 =>
    .pure c_18)
noncomputable def law16_NeutralPlain_F (rs0 : List Int) (ns1 : List Int) (level2 : Int) (right3 : Bool) : Option Bool := (law16_NeutralPlain_T rs0 ns1 level2 right3).run
def law16_NeutralPlain_L : List (Nat × LoopAnn) := [(5, { head := [.sv 2 false (.int .u8), .sv 3 false .bool, .sv 9 false (.sl (.int .i32)), .srow 10 1000010 28 true (.int .u8), .sv 12 true (.int .i64)], xid := 0, out := [.sv 2 false (.int .u8), .sv 3 false .bool, .sv 9 false (.sl (.int .i32)), .srow 10 1000010 28 true (.int .u8)], hasRet := false, res := [] })]
noncomputable def law16_NeutralPlain_C : List (Nat × Callee) := [(9, .plain law16_awake_fun), (10, .old law16_Cut_fun), (11, .plain law14_Side_fun), (13, .plain law15_Want_fun), (14, .plain law10_Ints_fun), (12, .plain ref14_Brackets_fun), (16, .plain neutral_Brackets_fun), (15, .plain law14_Like_fun)]
noncomputable def law16_NeutralPlain_fun : Fun := ⟨[.sl (.int .i32), .sl (.int .u8), .int .u8, .bool], [.v .bool], fun x => law16_NeutralPlain_F x.1 x.2.1 x.2.2.1 x.2.2.2.1⟩
theorem law16_NeutralPlain_ev (x : Tys.I [.sl (.int .i32), .sl (.int .u8), .int .u8, .bool]) : evFun G0 (fun f => olook f law16_NeutralPlain_C) ⟨[], [], [], [], [], []⟩ (fun i => olook i law16_NeutralPlain_L) Tryd.f4 [.sl (.int .i32), .sl (.int .u8), .int .u8, .bool] [.v .bool] x = law16_NeutralPlain_T x.1 x.2.1 x.2.2.1 x.2.2.2.1 := by kernel_rfl
theorem law16_NeutralPlain_ok : FunOk Tryd.prog 4 law16_NeutralPlain_fun := evFun_ok mixed ctx0 (cons_calls (fb := .plain law16_awake_fun) law16_awake_ok (fun h => by cases h) (cons_calls (fb := .old law16_Cut_fun) law16_Cut_ok (fun h => by cases h) (cons_calls (fb := .plain law14_Side_fun) law14_Side_ok (fun h => by cases h) (cons_calls (fb := .plain law15_Want_fun) law15_Want_ok (fun h => by cases h) (cons_calls (fb := .plain law10_Ints_fun) law10_Ints_ok (fun h => by cases h) (cons_calls (fb := .plain ref14_Brackets_fun) ref14_Brackets_ok (fun h => by cases h) (cons_calls (fb := .plain neutral_Brackets_fun) neutral_Brackets_ok (fun h => by cases h) (cons_calls (fb := .plain law14_Like_fun) law14_Like_ok (fun h => by cases h) (no_calls))))))))) Tryd.func4 (by kernel_rfl) _ (fun x => congrArg Tr.run (law16_NeutralPlain_ev x)) (by kernel_rfl) (by kernel_rfl)
/-! ### boustrophedon/boustrophedonlaw16.NeutralTwo -/
noncomputable def law16_NeutralTwo_T (rs0 : List Int) (ns1 : List Int) (ms2 : List Int) (level3 : Int) (right4 : Bool) : Tr Bool :=
  .bnd law16_awake_F fun c_1 =>
  .br (!c_1) (
    .pure false) (
    .bnd (law16_Cut_F rs0 ns1 ms2) fun c_2 =>
    .bnd (law14_Side_F right4) fun c_3 =>
    .bnd (neutral_Brackets_F c_2.1 c_2.2.1 c_2.2.2 (IntKind.i64.wrap (level3.tmod 120)) c_3) fun c_4 =>
    .bnd (neutral_Brackets_F c_2.1 c_2.2.1 c_2.2.2 (IntKind.i64.wrap ((IntKind.i64.wrap (level3.tmod 120)) + 2)) c_3) fun c_5 =>
    .bnd (law10_Ints_F c_5) fun c_6 =>
    .bnd (law14_Like_F c_4 c_6) fun c_7 =>
    .br c_7 (
      .bnd (neutral_Rest_F c_2.2.2 (IntKind.i64.wrap (level3.tmod 120)) c_3 c_3) fun c_8 =>
      .bnd (neutral_Rest_F c_2.2.2 (IntKind.i64.wrap ((IntKind.i64.wrap (level3.tmod 120)) + 2)) c_3 c_3) fun c_9 =>
      .bnd (law10_Ints_F c_9) fun c_10 =>
      .bnd (law14_Like_F c_8 c_10) fun c_11 =>
      .pure c_11) (
      .pure false))
noncomputable def law16_NeutralTwo_F (rs0 : List Int) (ns1 : List Int) (ms2 : List Int) (level3 : Int) (right4 : Bool) : Option Bool := (law16_NeutralTwo_T rs0 ns1 ms2 level3 right4).run
def law16_NeutralTwo_L : List (Nat × LoopAnn) := []
noncomputable def law16_NeutralTwo_C : List (Nat × Callee) := [(9, .plain law16_awake_fun), (10, .old law16_Cut_fun), (11, .plain law14_Side_fun), (16, .plain neutral_Brackets_fun), (14, .plain law10_Ints_fun), (15, .plain law14_Like_fun), (18, .plain neutral_Rest_fun)]
noncomputable def law16_NeutralTwo_fun : Fun := ⟨[.sl (.int .i32), .sl (.int .u8), .sl (.int .u8), .int .u8, .bool], [.v .bool], fun x => law16_NeutralTwo_F x.1 x.2.1 x.2.2.1 x.2.2.2.1 x.2.2.2.2.1⟩
theorem law16_NeutralTwo_ev (x : Tys.I [.sl (.int .i32), .sl (.int .u8), .sl (.int .u8), .int .u8, .bool]) : evFun G0 (fun f => olook f law16_NeutralTwo_C) ⟨[], [], [], [], [], []⟩ (fun i => olook i law16_NeutralTwo_L) Tryd.f7 [.sl (.int .i32), .sl (.int .u8), .sl (.int .u8), .int .u8, .bool] [.v .bool] x = law16_NeutralTwo_T x.1 x.2.1 x.2.2.1 x.2.2.2.1 x.2.2.2.2.1 := by kernel_rfl
theorem law16_NeutralTwo_ok : FunOk Tryd.prog 7 law16_NeutralTwo_fun := evFun_ok mixed ctx0 (cons_calls (fb := .plain law16_awake_fun) law16_awake_ok (fun h => by cases h) (cons_calls (fb := .old law16_Cut_fun) law16_Cut_ok (fun h => by cases h) (cons_calls (fb := .plain law14_Side_fun) law14_Side_ok (fun h => by cases h) (cons_calls (fb := .plain neutral_Brackets_fun) neutral_Brackets_ok (fun h => by cases h) (cons_calls (fb := .plain law10_Ints_fun) law10_Ints_ok (fun h => by cases h) (cons_calls (fb := .plain law14_Like_fun) law14_Like_ok (fun h => by cases h) (cons_calls (fb := .plain neutral_Rest_fun) neutral_Rest_ok (fun h => by cases h) (no_calls)))))))) Tryd.func7 (by kernel_rfl) _ (fun x => congrArg Tr.run (law16_NeutralTwo_ev x)) (by kernel_rfl) (by kernel_rfl)
end Go.Proofs.YtaahkcepdgmagaaDoor
