/-
  The plain readings of the functions of this seat, by program; each is tied to the loaded function.
-/
import Derived.Test.YtcphogekgfakpaaEvErr
import Derived.Test.YtcphogekgfakpaaChecked
namespace Go.Proofs.Ytcphogekgfakpaa
set_option maxRecDepth 100000
set_option linter.unusedVariables false

def G0 : Ctx := { ty := [(3, .int .i64), (4, .bool), (5, .int .u8), (21, .int .i32), (22, .sl (.int .i32)), (23, .sl (.int .u8)), (25, .sl (.int .u8)), (27, .int .u8), (28, .sl (.st (.pair (.int .i64) (.pair (.int .i64) (.int .i64))))), (31, .st (.pair (.int .i64) (.pair (.int .i64) (.int .i64))))], sls := [(22, ⟨21, .int .i32, 35184372088832⟩), (23, ⟨5, .int .u8, 140737488355328⟩), (25, ⟨27, .int .u8, 140737488355328⟩), (28, ⟨31, .st (.pair (.int .i64) (.pair (.int .i64) (.int .i64))), 5864062014805⟩)], eqs := [(31, .pair (.int .i64) (.pair (.int .i64) (.int .i64)))], enos := [] }
theorem mixed : Try.prog.follows .mixedOrders = true := by kernel_rfl
theorem ctx0 : CtxOk Try.prog G0 := ctx_ok (by kernel_rfl)
theorem no_calls {Λ : List Nat} : ∀ f fa, olook f ([] : List (Nat × Callee)) = some fa → CalleeOk Try.prog f fa ∧ (fa.isPlain = false → inList f Λ = true) := fun _ _ h => by cases h
theorem cons_calls {Λ : List Nat} {k : Nat} {fb : Callee} {l : List (Nat × Callee)} (h : CalleeOk Try.prog k fb) (hi : fb.isPlain = false → inList k Λ = true) (hl : ∀ f fa, olook f l = some fa → CalleeOk Try.prog f fa ∧ (fa.isPlain = false → inList f Λ = true)) : ∀ f fa, olook f ((k, fb) :: l) = some fa → CalleeOk Try.prog f fa ∧ (fa.isPlain = false → inList f Λ = true) := by
  intro f fa hf
  rw [olook_cons] at hf
  split at hf
  · rename_i e; subst e; cases hf; exact ⟨h, hi⟩
  · exact hl f fa hf

/-! ### boustrophedon/para.next -/
noncomputable def para_next_L2 (rs0 : List Int) (cs1 : List Int) (from2 : Int) (t6 : Int × Int × Int) (i7 : Int) : Tr (Lap (List Int × List Int × Int × (Int × Int × Int) × Int) (Sum (List Int × Int × Int × Int × Int) (Int × Int × Int))) :=
  .br (decide (i7 < (rs0.length : Int))) (
    .bnd (idx cs1 i7) fun x_1 =>
    .br (x_1 != 10) (
      .pure (.next (rs0, cs1, from2, t6, IntKind.i64.wrap (i7 + 1)))) (
      .bnd (idx rs0 i7) fun x_2 =>
      .br (x_2 == 13) (
        .br (decide ((IntKind.i64.wrap (i7 + 1)) < (rs0.length : Int))) (
          .bnd (idx rs0 (IntKind.i64.wrap (i7 + 1))) fun x_3 =>
          .br (x_3 == 10) (
            .pure (.done (.inr (from2, IntKind.i64.wrap (i7 + 2), 2)))) (
            .pure (.done (.inr (from2, IntKind.i64.wrap (i7 + 1), 1))))) (
          .pure (.done (.inr (from2, IntKind.i64.wrap (i7 + 1), 1))))) (
        .pure (.done (.inr (from2, IntKind.i64.wrap (i7 + 1), 1)))))) (
    .pure (.done (.inl (rs0, from2, t6))))
noncomputable def para_next_T (rs0 : List Int) (cs1 : List Int) (from2 : Int) : Tr (Int × Int × Int) :=
  .alt (loopW (fun s => (para_next_L2 s.1 s.2.1 s.2.2.1 s.2.2.2.1 s.2.2.2.2).run) (rs0, cs1, from2, (0, 0, 0), from2)) (fun l_4 =>
    .pure (l_4.2.1, (l_4.1.length : Int), 0)) (fun l_5 =>
    .pure l_5)
noncomputable def para_next_F (rs0 : List Int) (cs1 : List Int) (from2 : Int) : Option (Int × Int × Int) := (para_next_T rs0 cs1 from2).run
def para_next_L : List (Nat × LoopAnn) := [(2, { head := [.sv 0 false (.sl (.int .i32)), .sv 1 false (.sl (.int .u8)), .sv 2 false (.int .i64), .sbox 6 1000006 31 true (.st (.pair (.int .i64) (.pair (.int .i64) (.int .i64)))), .sv 7 false (.int .i64)], xid := 0, out := [.sv 0 false (.sl (.int .i32)), .sv 2 false (.int .i64), .sbox 6 1000006 31 true (.st (.pair (.int .i64) (.pair (.int .i64) (.int .i64))))], hasRet := true, res := [.sbox 6 1000006 31 true (.st (.pair (.int .i64) (.pair (.int .i64) (.int .i64))))] })]
noncomputable def para_next_C : List (Nat × Callee) := []
noncomputable def para_next_fun : Fun := ⟨[.sl (.int .i32), .sl (.int .u8), .int .i64], [.v (.st (.pair (.int .i64) (.pair (.int .i64) (.int .i64))))], fun x => para_next_F x.1 x.2.1 x.2.2.1⟩
theorem para_next_ev (x : Tys.I [.sl (.int .i32), .sl (.int .u8), .int .i64]) : evFun G0 (fun f => olook f para_next_C) ⟨[], [], [], [], []⟩ (fun i => olook i para_next_L) Try.f7 [.sl (.int .i32), .sl (.int .u8), .int .i64] [.v (.st (.pair (.int .i64) (.pair (.int .i64) (.int .i64))))] x = para_next_T x.1 x.2.1 x.2.2.1 := by kernel_rfl
theorem para_next_ok : FunOk Try.prog 7 para_next_fun := evFun_ok mixed ctx0 (no_calls) Try.func7 (by kernel_rfl) _ (fun x => congrArg Tr.run (para_next_ev x)) (by kernel_rfl) (by kernel_rfl)
/-! ### boustrophedon/para.Split -/
noncomputable def para_Split_L4 (rs0 : List Int) (cs1 : List Int) (n5 : Int) (ps6 : List (Int × Int × Int)) (from7 : Int) : Tr (Lap (List Int × List Int × Int × (List (Int × Int × Int)) × Int) (List (Int × Int × Int))) :=
  .br (decide (from7 < n5)) (
    .bnd (cut rs0 0 n5) fun r_1 =>
    .bnd (para_next_F r_1 cs1 from7) fun c_2 =>
    .bnd (idx ([c_2]) 0) fun x_3 =>
    .bnd (app 5864062014805 ps6 ([x_3])) fun r_4 =>
    .bnd (idx ([c_2]) 0) fun x_5 =>
    .pure (.next (rs0, cs1, n5, r_4, x_5.2.1))) (
    .pure (.done ps6))
noncomputable def para_Split_T (rs0 : List Int) (cs1 : List Int) : Tr (List (Int × Int × Int)) :=
  .bnd (loopW (fun s => (para_Split_L4 s.1 s.2.1 s.2.2.1 s.2.2.2.1 s.2.2.2.2).run) (rs0, cs1, if (cs1.length : Int) < (rs0.length : Int) then (cs1.length : Int) else (rs0.length : Int), [], 0)) fun l_6 =>
  .pure l_6
noncomputable def para_Split_F (rs0 : List Int) (cs1 : List Int) : Option (List (Int × Int × Int)) := (para_Split_T rs0 cs1).run
def para_Split_L : List (Nat × LoopAnn) := [(4, { head := [.sv 0 false (.sl (.int .i32)), .sv 1 false (.sl (.int .u8)), .sv 5 true (.int .i64), .srow 6 1000006 31 true (.st (.pair (.int .i64) (.pair (.int .i64) (.int .i64)))), .sv 7 true (.int .i64)], xid := 0, out := [.srow 6 1000006 31 true (.st (.pair (.int .i64) (.pair (.int .i64) (.int .i64))))], hasRet := false, res := [] })]
noncomputable def para_Split_C : List (Nat × Callee) := [(7, .plain para_next_fun)]
noncomputable def para_Split_fun : Fun := ⟨[.sl (.int .i32), .sl (.int .u8)], [.row 31 (.st (.pair (.int .i64) (.pair (.int .i64) (.int .i64))))], fun x => para_Split_F x.1 x.2.1⟩
theorem para_Split_ev (x : Tys.I [.sl (.int .i32), .sl (.int .u8)]) : evFun G0 (fun f => olook f para_Split_C) ⟨[], [], [], [], []⟩ (fun i => olook i para_Split_L) Try.f6 [.sl (.int .i32), .sl (.int .u8)] [.row 31 (.st (.pair (.int .i64) (.pair (.int .i64) (.int .i64))))] x = para_Split_T x.1 x.2.1 := by kernel_rfl
theorem para_Split_ok : FunOk Try.prog 6 para_Split_fun := evFun_ok mixed ctx0 (cons_calls (fb := .plain para_next_fun) para_next_ok (fun h => by cases h) (no_calls)) Try.func6 (by kernel_rfl) _ (fun x => congrArg Tr.run (para_Split_ev x)) (by kernel_rfl) (by kernel_rfl)
/-! ### boustrophedon/boustrophedonlaw08.awake -/
noncomputable def law08_awake_T : Tr Bool :=
  .bnd (para_Split_F ([97, 13, 10, 98]) ([0, 10, 10, 0])) fun c_1 =>
  .bnd (para_Split_F ([10, 10]) ([10, 10])) fun c_2 =>
  .br ((c_1.length : Int) == 2) (
    .bnd (idx c_1 0) fun x_3 =>
    .br ((x_3.1 == 0) && ((x_3.2.1 == 3) && (x_3.2.2 == 2))) (
      .bnd (idx c_1 1) fun x_4 =>
      .br ((x_4.1 == 3) && ((x_4.2.1 == 4) && (x_4.2.2 == 0))) (
        .br ((c_2.length : Int) == 2) (
          .bnd (idx c_2 1) fun x_5 =>
          .pure ((x_5.1 == 1) && ((x_5.2.1 == 2) && (x_5.2.2 == 1)))) (
          .pure false)) (
        .pure false)) (
      .pure false)) (
    .pure false)
noncomputable def law08_awake_F : Option Bool := (law08_awake_T).run
def law08_awake_L : List (Nat × LoopAnn) := []
noncomputable def law08_awake_C : List (Nat × Callee) := [(6, .plain para_Split_fun)]
noncomputable def law08_awake_fun : Fun := ⟨[], [.v .bool], fun _ => law08_awake_F⟩
theorem law08_awake_ev (x : Tys.I []) : evFun G0 (fun f => olook f law08_awake_C) ⟨[], [], [], [], []⟩ (fun i => olook i law08_awake_L) Try.f4 [] [.v .bool] x = law08_awake_T := by kernel_rfl
theorem law08_awake_ok : FunOk Try.prog 4 law08_awake_fun := evFun_ok mixed ctx0 (cons_calls (fb := .plain para_Split_fun) para_Split_ok (fun h => by cases h) (no_calls)) Try.func4 (by kernel_rfl) _ (fun x => congrArg Tr.run (law08_awake_ev x)) (by kernel_rfl) (by kernel_rfl)
/-! ### boustrophedon/boustrophedonlaw08.Classes -/
noncomputable def law08_Classes_L3 (ns0 : List Int) (out3 : List Int) (k4 : Int) : Tr (Lap (List Int × List Int × Int) (List Int)) :=
  .br (decide (k4 < (ns0.length : Int))) (
    .bnd (idx ns0 k4) fun x_1 =>
    .bnd (app 140737488355328 out3 ([x_1.tmod 23])) fun r_2 =>
    .pure (.next (ns0, r_2, IntKind.i64.wrap (k4 + 1)))) (
    .pure (.done out3))
noncomputable def law08_Classes_T (ns0 : List Int) : Tr (List Int) :=
  .bnd (loopW (fun s => (law08_Classes_L3 s.1 s.2.1 s.2.2).run) (ns0, [], 0)) fun l_3 =>
  .pure l_3
noncomputable def law08_Classes_F (ns0 : List Int) : Option (List Int) := (law08_Classes_T ns0).run
def law08_Classes_L : List (Nat × LoopAnn) := [(3, { head := [.sv 0 false (.sl (.int .u8)), .srow 3 1000003 27 true (.int .u8), .sv 4 true (.int .i64)], xid := 0, out := [.srow 3 1000003 27 true (.int .u8)], hasRet := false, res := [] })]
noncomputable def law08_Classes_C : List (Nat × Callee) := []
noncomputable def law08_Classes_fun : Fun := ⟨[.sl (.int .u8)], [.row 27 (.int .u8)], fun x => law08_Classes_F x.1⟩
theorem law08_Classes_ev (x : Tys.I [.sl (.int .u8)]) : evFun G0 (fun f => olook f law08_Classes_C) ⟨[], [], [], [], []⟩ (fun i => olook i law08_Classes_L) Try.f5 [.sl (.int .u8)] [.row 27 (.int .u8)] x = law08_Classes_T x.1 := by kernel_rfl
theorem law08_Classes_ok : FunOk Try.prog 5 law08_Classes_fun := evFun_ok mixed ctx0 (no_calls) Try.func5 (by kernel_rfl) _ (fun x => congrArg Tr.run (law08_Classes_ev x)) (by kernel_rfl) (by kernel_rfl)
/-! ### boustrophedon/boustrophedonlaw08.ParaJoins -/
noncomputable def law08_ParaJoins_L18 (n11 : Int) (first15 : List (Int × Int × Int)) (second17 : List (Int × Int × Int)) (t83 : List (Int × Int × Int)) (t84 : Int) (t85 : Int) : Tr (Lap (Int × (List (Int × Int × Int)) × (List (Int × Int × Int)) × (List (Int × Int × Int)) × Int × Int) (Sum Unit Bool)) :=
  .br (decide (t85 < t84)) (
    .bnd (idx t83 t85) fun x_19 =>
    .br (decide (t85 < (first15.length : Int))) (
      .bnd (idx ([x_19]) 0) fun x_20 =>
      .bnd (idx first15 t85) fun x_21 =>
      .br (!((x_20.1 == x_21.1) && ((x_20.2.1 == x_21.2.1) && (x_20.2.2 == x_21.2.2)))) (
        .pure (.done (.inr false))) (
        .br (decide (t85 ≥ (first15.length : Int))) (
          .bnd (idx ([x_19]) 0) fun x_22 =>
          .bnd (idx second17 (IntKind.i64.wrap (t85 - (first15.length : Int)))) fun x_23 =>
          .br ((IntKind.i64.wrap ((IntKind.i64.wrap (x_22.1 - n11)) - 1)) != x_23.1) (
            .pure (.done (.inr false))) (
            .bnd (idx ([x_19]) 0) fun x_24 =>
            .bnd (idx second17 (IntKind.i64.wrap (t85 - (first15.length : Int)))) fun x_25 =>
            .br ((IntKind.i64.wrap ((IntKind.i64.wrap (x_24.2.1 - n11)) - 1)) != x_25.2.1) (
              .pure (.done (.inr false))) (
              .bnd (idx ([x_19]) 0) fun x_26 =>
              .bnd (idx second17 (IntKind.i64.wrap (t85 - (first15.length : Int)))) fun x_27 =>
              .br (x_26.2.2 != x_27.2.2) (
                .pure (.done (.inr false))) (
                .pure (.next (n11, first15, second17, t83, t84, IntKind.i64.wrap (t85 + 1))))))) (
          .pure (.next (n11, first15, second17, t83, t84, IntKind.i64.wrap (t85 + 1)))))) (
      .br (decide (t85 ≥ (first15.length : Int))) (
        .bnd (idx ([x_19]) 0) fun x_28 =>
        .bnd (idx second17 (IntKind.i64.wrap (t85 - (first15.length : Int)))) fun x_29 =>
        .br ((IntKind.i64.wrap ((IntKind.i64.wrap (x_28.1 - n11)) - 1)) != x_29.1) (
          .pure (.done (.inr false))) (
          .bnd (idx ([x_19]) 0) fun x_30 =>
          .bnd (idx second17 (IntKind.i64.wrap (t85 - (first15.length : Int)))) fun x_31 =>
          .br ((IntKind.i64.wrap ((IntKind.i64.wrap (x_30.2.1 - n11)) - 1)) != x_31.2.1) (
            .pure (.done (.inr false))) (
            .bnd (idx ([x_19]) 0) fun x_32 =>
            .bnd (idx second17 (IntKind.i64.wrap (t85 - (first15.length : Int)))) fun x_33 =>
            .br (x_32.2.2 != x_33.2.2) (
              .pure (.done (.inr false))) (
              .pure (.next (n11, first15, second17, t83, t84, IntKind.i64.wrap (t85 + 1))))))) (
        .pure (.next (n11, first15, second17, t83, t84, IntKind.i64.wrap (t85 + 1)))))) (
    .pure (.done (.inl ())))
noncomputable def law08_ParaJoins_T (rs0 : List Int) (ns1 : List Int) (more2 : List Int) (ms3 : List Int) : Tr Bool :=
  .bnd law08_awake_F fun c_1 =>
  .br (!c_1) (
    .pure false) (
    .bnd (law08_Classes_F ns1) fun c_2 =>
    .bnd (law08_Classes_F ms3) fun c_3 =>
    .bnd (cut rs0 0 (if (c_2.length : Int) < (rs0.length : Int) then (c_2.length : Int) else (rs0.length : Int))) fun r_4 =>
    .bnd (app 35184372088832 [] r_4) fun r_5 =>
    .bnd (cut c_2 0 (if (c_2.length : Int) < (rs0.length : Int) then (c_2.length : Int) else (rs0.length : Int))) fun r_6 =>
    .bnd (app 140737488355328 [] r_6) fun r_7 =>
    .bnd (app 35184372088832 r_5 ([10])) fun r_8 =>
    .bnd (app 140737488355328 r_7 ([10])) fun r_9 =>
    .bnd (para_Split_F r_8 r_9) fun c_10 =>
    .bnd (cut more2 0 (if (c_3.length : Int) < (more2.length : Int) then (c_3.length : Int) else (more2.length : Int))) fun r_11 =>
    .bnd (app 35184372088832 r_8 r_11) fun r_12 =>
    .bnd (cut c_3 0 (if (c_3.length : Int) < (more2.length : Int) then (c_3.length : Int) else (more2.length : Int))) fun r_13 =>
    .bnd (app 140737488355328 r_9 r_13) fun r_14 =>
    .bnd (para_Split_F r_12 r_14) fun c_15 =>
    .bnd (cut more2 0 (if (c_3.length : Int) < (more2.length : Int) then (c_3.length : Int) else (more2.length : Int))) fun r_16 =>
    .bnd (cut c_3 0 (if (c_3.length : Int) < (more2.length : Int) then (c_3.length : Int) else (more2.length : Int))) fun r_17 =>
    .bnd (para_Split_F r_16 r_17) fun c_18 =>
    .br ((c_15.length : Int) != (IntKind.i64.wrap ((c_10.length : Int) + (c_18.length : Int)))) (
      .pure false) (
      .alt (loopW (fun s => (law08_ParaJoins_L18 s.1 s.2.1 s.2.2.1 s.2.2.2.1 s.2.2.2.2.1 s.2.2.2.2.2).run) (if (c_2.length : Int) < (rs0.length : Int) then (c_2.length : Int) else (rs0.length : Int), c_10, c_18, c_15, (c_15.length : Int), 0)) (fun l_34 =>
        .pure true) (fun l_35 =>
        .pure l_35)))
noncomputable def law08_ParaJoins_F (rs0 : List Int) (ns1 : List Int) (more2 : List Int) (ms3 : List Int) : Option Bool := (law08_ParaJoins_T rs0 ns1 more2 ms3).run
def law08_ParaJoins_L : List (Nat × LoopAnn) := [(18, { head := [.sv 11 true (.int .i64), .srow 15 1000015 31 true (.st (.pair (.int .i64) (.pair (.int .i64) (.int .i64)))), .srow 17 1000017 31 true (.st (.pair (.int .i64) (.pair (.int .i64) (.int .i64)))), .srow 83 1000083 31 true (.st (.pair (.int .i64) (.pair (.int .i64) (.int .i64)))), .sv 84 true (.int .i64), .sv 85 true (.int .i64)], xid := 0, out := [], hasRet := true, res := [.sv 8 true .bool] })]
noncomputable def law08_ParaJoins_C : List (Nat × Callee) := [(4, .plain law08_awake_fun), (5, .plain law08_Classes_fun), (6, .plain para_Split_fun)]
noncomputable def law08_ParaJoins_fun : Fun := ⟨[.sl (.int .i32), .sl (.int .u8), .sl (.int .i32), .sl (.int .u8)], [.v .bool], fun x => law08_ParaJoins_F x.1 x.2.1 x.2.2.1 x.2.2.2.1⟩
theorem law08_ParaJoins_ev (x : Tys.I [.sl (.int .i32), .sl (.int .u8), .sl (.int .i32), .sl (.int .u8)]) : evFun G0 (fun f => olook f law08_ParaJoins_C) ⟨[], [], [], [], []⟩ (fun i => olook i law08_ParaJoins_L) Try.f3 [.sl (.int .i32), .sl (.int .u8), .sl (.int .i32), .sl (.int .u8)] [.v .bool] x = law08_ParaJoins_T x.1 x.2.1 x.2.2.1 x.2.2.2.1 := by kernel_rfl
theorem law08_ParaJoins_ok : FunOk Try.prog 3 law08_ParaJoins_fun := evFun_ok mixed ctx0 (cons_calls (fb := .plain law08_awake_fun) law08_awake_ok (fun h => by cases h) (cons_calls (fb := .plain law08_Classes_fun) law08_Classes_ok (fun h => by cases h) (cons_calls (fb := .plain para_Split_fun) para_Split_ok (fun h => by cases h) (no_calls)))) Try.func3 (by kernel_rfl) _ (fun x => congrArg Tr.run (law08_ParaJoins_ev x)) (by kernel_rfl) (by kernel_rfl)
end Go.Proofs.Ytcphogekgfakpaa
