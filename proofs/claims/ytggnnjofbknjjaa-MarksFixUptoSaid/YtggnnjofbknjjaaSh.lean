/-
  The plain readings of the functions of this seat, by program; each is tied to the loaded function.
-/
import Derived.Test.YtggnnjofbknjjaaEvErr
import Derived.Test.YtggnnjofbknjjaaChecked
namespace Go.Proofs.Ytggnnjofbknjjaa
set_option maxRecDepth 100000
set_option linter.unusedVariables false

def G0 : Ctx := { ty := [(3, .int .i64), (4, .bool), (5, .int .u8), (22, .sl (.int .u8)), (24, .sl (.int .i64)), (26, .sl (.int .u8)), (35, .int .u8)], sls := [(22, ⟨5, .int .u8, 140737488355328⟩), (24, ⟨3, .int .i64, 17592186044416⟩), (26, ⟨35, .int .u8, 140737488355328⟩)], eqs := [], enos := [] }
theorem mixed : Try.prog.follows .mixedOrders = true := by kernel_rfl
theorem ctx0 : CtxOk Try.prog G0 := ctx_ok (by kernel_rfl)
theorem no_calls {Λ : List Nat} : ∀ f fa, olook f ([] : List (Nat × Callee)) = some fa → CalleeOk Try.prog f fa ∧ (fa.isPlain = false → inList f Λ = true) := fun _ _ h => by cases h
theorem cons_calls {Λ : List Nat} {k : Nat} {fb : Callee} {l : List (Nat × Callee)} (h : CalleeOk Try.prog k fb) (hi : fb.isPlain = false → inList k Λ = true) (hl : ∀ f fa, olook f l = some fa → CalleeOk Try.prog f fa ∧ (fa.isPlain = false → inList f Λ = true)) : ∀ f fa, olook f ((k, fb) :: l) = some fa → CalleeOk Try.prog f fa ∧ (fa.isPlain = false → inList f Λ = true) := by
  intro f fa hf
  rw [olook_cons] at hf
  split at hf
  · rename_i e; subst e; cases hf; exact ⟨h, hi⟩
  · exact hl f fa hf

/-! ### slices.Clone[[]int,int] -/
noncomputable def slices_Clone___int_int__T (s0 : List Int) : Tr (List Int) :=
  .bnd (app 17592186044416 ([]) s0) fun r_1 =>
  .pure r_1
noncomputable def slices_Clone___int_int__F (s0 : List Int) : Option (List Int) := (slices_Clone___int_int__T s0).run
def slices_Clone___int_int__L : List (Nat × LoopAnn) := []
noncomputable def slices_Clone___int_int__C : List (Nat × Callee) := []
noncomputable def slices_Clone___int_int__fun : Fun := ⟨[.sl (.int .i64)], [.row 3 (.int .i64)], fun x => slices_Clone___int_int__F x.1⟩
noncomputable def slices_Clone___int_int__T0 : Tr (List Int) :=
  .pure ([])
theorem slices_Clone___int_int__ev0 : evFunS G0 (fun f => olook f slices_Clone___int_int__C) ⟨[], [], [], [], [], []⟩ (fun i => olook i slices_Clone___int_int__L) Try.f17 [.nil] [.row 3 (.int .i64)] = slices_Clone___int_int__T0 := by kernel_rfl
theorem slices_Clone___int_int__ev1 (s0 : List Int) : evFunS G0 (fun f => olook f slices_Clone___int_int__C) ⟨[], [], [], [], [], []⟩ (fun i => olook i slices_Clone___int_int__L) Try.f17 [.nn false (.int .i64) s0] [.row 3 (.int .i64)] = slices_Clone___int_int__T s0 := by kernel_rfl
theorem slices_Clone___int_int__nil (r : List Int) (h : slices_Clone___int_int__F [] = some r) : slices_Clone___int_int__T0.run = some r := by
  simp [slices_Clone___int_int__F, slices_Clone___int_int__T, slices_Clone___int_int__T0, app, mk, Tr.run] at h ⊢
  exact h
theorem slices_Clone___int_int__ok : FunOk Try.prog 17 slices_Clone___int_int__fun := evFunN_ok (A := ⟨[], [], [], [], [], []⟩) (L := fun i => olook i slices_Clone___int_int__L) mixed ctx0 (no_calls) Try.func17 (by kernel_rfl) _ (fun r h => (congrArg Tr.run slices_Clone___int_int__ev0).trans (slices_Clone___int_int__nil r h)) (fun s0 r h => (congrArg Tr.run (slices_Clone___int_int__ev1 s0)).trans h) (by kernel_rfl)
/-! ### boustrophedon/marks.Fix$1 -/
noncomputable def marks_Fix_1_T (i0 : Int) (t1 : List Int) (t2 : List Int) (t3 : List Int) : Tr Bool :=
  .bnd (idx t1 i0) fun x_1 =>
  .br (decide (x_1 > 0)) (
    .bnd (idx t1 i0) fun x_2 =>
    .br ((x_2.tmod 2) == 1) (
      .bnd (idx t2 i0) fun x_3 =>
      .br (x_3 == 8) (
        .bnd (idx t3 i0) fun x_4 =>
        .pure (x_4 == 0)) (
        .pure false)) (
      .pure false)) (
    .pure false)
noncomputable def marks_Fix_1_F (i0 : Int) (t1 : List Int) (t2 : List Int) (t3 : List Int) : Option Bool := (marks_Fix_1_T i0 t1 t2 t3).run
def marks_Fix_1_L : List (Nat × LoopAnn) := []
noncomputable def marks_Fix_1_C : List (Nat × Callee) := []
noncomputable def marks_Fix_1_fun : Fun := ⟨[.int .i64, .ptr (.sl (.int .i64)), .ptr (.sl (.int .u8)), .ptr (.sl (.int .i64))], [.v .bool], fun x => marks_Fix_1_F x.1 x.2.1 x.2.2.1 x.2.2.2.1⟩
theorem marks_Fix_1_ev (x : Tys.I [.int .i64, .ptr (.sl (.int .i64)), .ptr (.sl (.int .u8)), .ptr (.sl (.int .i64))]) : evFun G0 (fun f => olook f marks_Fix_1_C) ⟨[], [], [], [], [], []⟩ (fun i => olook i marks_Fix_1_L) Try.f18 [.int .i64, .ptr (.sl (.int .i64)), .ptr (.sl (.int .u8)), .ptr (.sl (.int .i64))] [.v .bool] x = marks_Fix_1_T x.1 x.2.1 x.2.2.1 x.2.2.2.1 := by kernel_rfl
theorem marks_Fix_1_ok : FunOk Try.prog 18 marks_Fix_1_fun := evFun_ok mixed ctx0 (no_calls) Try.func18 (by kernel_rfl) _ (fun x => congrArg Tr.run (marks_Fix_1_ev x)) (by kernel_rfl) (by kernel_rfl)
/-! ### slices.Reverse[[]int,int] -/
noncomputable def slices_Reverse___int_int__L1 (s0 : List Int) (i2 : Int) (j3 : Int) : Tr (Lap (List Int × Int × Int) (List Int)) :=
  .br (decide (i2 < j3)) (
    .bnd (idx s0 j3) fun _ =>
    .bnd (idx s0 j3) fun x_2 =>
    .bnd (idx s0 i2) fun _ =>
    .bnd (idx s0 i2) fun x_4 =>
    .bnd (idx s0 i2) fun _ =>
    .bnd (idx s0 i2) fun _ =>
    .bnd (idx (s0.set (Int.toNat i2) x_2) j3) fun _ =>
    .bnd (idx (s0.set (Int.toNat i2) x_2) j3) fun _ =>
    .pure (.next ((s0.set (Int.toNat i2) x_2).set (Int.toNat j3) x_4, IntKind.i64.wrap (i2 + 1), IntKind.i64.wrap (j3 - 1)))) (
    .pure (.done s0))
noncomputable def slices_Reverse___int_int__T (s0 : List Int) : Tr (List Int × Unit) :=
  .bnd (loopW (fun s => (slices_Reverse___int_int__L1 s.1 s.2.1 s.2.2).run) (s0, 0, IntKind.i64.wrap ((s0.length : Int) - 1))) fun l_7 =>
  .pure (l_7, ())
noncomputable def slices_Reverse___int_int__F (s0 : List Int) : Option (List Int × Unit) := (slices_Reverse___int_int__T s0).run
def slices_Reverse___int_int__L : List (Nat × LoopAnn) := [(1, { head := [.slrow 0 3 (.int .i64), .sv 2 true (.int .i64), .sv 3 true (.int .i64)], xid := 0, out := [.slrow 0 3 (.int .i64)], hasRet := false, res := [] })]
noncomputable def slices_Reverse___int_int__C : List (Nat × Callee) := []
noncomputable def slices_Reverse___int_int__fun : LFun := ⟨3, (.int .i64), [], [], fun s _ => slices_Reverse___int_int__F s⟩
theorem slices_Reverse___int_int__ev (s : List Int) (x : Tys.I []) : evFunL G0 (fun f => olook f slices_Reverse___int_int__C) ⟨[], [], [], [], [], []⟩ (fun i => olook i slices_Reverse___int_int__L) Try.f19 3 (.int .i64) [] [] s x = slices_Reverse___int_int__T s := by kernel_rfl
theorem slices_Reverse___int_int__ok : LentOk Try.prog 19 slices_Reverse___int_int__fun := evFunL_ok mixed ctx0 (no_calls) Try.func19 (by kernel_rfl) rfl _ (fun s x => congrArg Tr.run (slices_Reverse___int_int__ev s x)) (by kernel_rfl)
/-! ### boustrophedon/marks.Fix -/
noncomputable def marks_Fix_L4 (levels5 : List Int) (cs6 : List Int) (widths7 : List Int) (out9 : List Int) (n10 : Int) (t25 : List Int) (t26 : Int) (t27 : Int) : Tr (Lap (List Int × List Int × List Int × List Int × Int × List Int × Int × Int) (Sum (List Int × List Int × List Int × List Int) (List Int))) :=
  .br (decide (t27 < t26)) (
    .bnd (idx t25 t27) fun x_2 =>
    .br (decide (x_2 < 0)) (
      .pure (.done (.inr out9))) (
      .br (decide (x_2 ≥ n10)) (
        .pure (.done (.inr out9))) (
        .pure (.next (levels5, cs6, widths7, out9, n10, t25, t26, IntKind.i64.wrap (t27 + 1)))))) (
    .pure (.done (.inl (levels5, cs6, widths7, out9))))
noncomputable def marks_Fix_L13 (levels5 : List Int) (out9 : List Int) (mark13 : List Int × List Int × List Int) (from14 : Int) (to15 : Int) : Tr (Lap (List Int × List Int × (List Int × List Int × List Int) × Int × Int) (List Int × List Int × (List Int × List Int × List Int) × Int × Int)) :=
  .br (decide (to15 < (out9.length : Int))) (
    .bnd (idx out9 to15) fun x_4 =>
    .bnd (marks_Fix_1_F x_4 mark13.1 mark13.2.1 mark13.2.2) fun c_5 =>
    .br c_5 (
      .pure (.next (levels5, out9, mark13, from14, IntKind.i64.wrap (to15 + 1)))) (
      .pure (.done (levels5, out9, mark13, from14, to15)))) (
    .pure (.done (levels5, out9, mark13, from14, to15)))
noncomputable def marks_Fix_L11 (levels5 : List Int) (out9 : List Int) (mark13 : List Int × List Int × List Int) (from14 : Int) : Tr (Lap (List Int × List Int × (List Int × List Int × List Int) × Int) (List Int)) :=
  .br (decide (from14 < (out9.length : Int))) (
    .bnd (loopW (fun s => (marks_Fix_L13 s.1 s.2.1 s.2.2.1 s.2.2.2.1 s.2.2.2.2).run) (levels5, out9, mark13, from14, from14)) fun l_6 =>
    .br (decide (l_6.2.2.2.2 < (l_6.2.1.length : Int))) (
      .bnd (idx l_6.2.1 l_6.2.2.2.2) fun x_7 =>
      .bnd (idx l_6.1 x_7) fun x_8 =>
      .bnd (idx l_6.2.1 l_6.2.2.2.1) fun x_9 =>
      .bnd (idx l_6.1 x_9) fun x_10 =>
      .br (x_8 == x_10) (
        .bnd (cut l_6.2.1 l_6.2.2.2.1 (IntKind.i64.wrap (l_6.2.2.2.2 + 1))) fun r_11 =>
        .bnd (slices_Reverse___int_int__F ((l_6.2.1.drop ((l_6.2.2.2.1).toNat)).take r_11.length)) fun c_12 =>
        .pure (.next (l_6.1, splice' l_6.2.1 ((l_6.2.2.2.1).toNat) r_11.length c_12.1, l_6.2.2.1, IntKind.i64.wrap (l_6.2.2.2.2 + 1)))) (
        .pure (.next (l_6.1, l_6.2.1, l_6.2.2.1, IntKind.i64.wrap (l_6.2.2.2.2 + 1))))) (
      .pure (.next (l_6.1, l_6.2.1, l_6.2.2.1, IntKind.i64.wrap (l_6.2.2.2.2 + 1))))) (
    .pure (.done out9))
noncomputable def marks_Fix_T (visual0 : List Int) (levels1 : List Int) (cs2 : List Int) (widths3 : List Int) : Tr (List Int) :=
  .bnd (slices_Clone___int_int__F visual0) fun c_1 =>
  .alt (loopW (fun s => (marks_Fix_L4 s.1 s.2.1 s.2.2.1 s.2.2.2.1 s.2.2.2.2.1 s.2.2.2.2.2.1 s.2.2.2.2.2.2.1 s.2.2.2.2.2.2.2).run) (levels1, cs2, widths3, c_1, if (widths3.length : Int) < (if (cs2.length : Int) < (levels1.length : Int) then (cs2.length : Int) else (levels1.length : Int)) then (widths3.length : Int) else (if (cs2.length : Int) < (levels1.length : Int) then (cs2.length : Int) else (levels1.length : Int)), visual0, (visual0.length : Int), 0)) (fun l_3 =>
    .bnd (loopW (fun s => (marks_Fix_L11 s.1 s.2.1 s.2.2.1 s.2.2.2).run) (l_3.1, l_3.2.2.2, (l_3.1, l_3.2.1, l_3.2.2.1), 0)) fun l_13 =>
    .pure l_13) (fun l_14 =>
    .pure l_14)
noncomputable def marks_Fix_F (visual0 : List Int) (levels1 : List Int) (cs2 : List Int) (widths3 : List Int) : Option (List Int) := (marks_Fix_T visual0 levels1 cs2 widths3).run
def marks_Fix_L : List (Nat × LoopAnn) := [(4, { head := [.sbox 5 1000005 24 false (.sl (.int .i64)), .sbox 6 1000006 26 false (.sl (.int .u8)), .sbox 7 1000007 24 false (.sl (.int .i64)), .srow 9 1000009 3 true (.int .i64), .sv 10 true (.int .i64), .sv 25 false (.sl (.int .i64)), .sv 26 true (.int .i64), .sv 27 true (.int .i64)], xid := 0, out := [.sbox 5 1000005 24 false (.sl (.int .i64)), .sbox 6 1000006 26 false (.sl (.int .u8)), .sbox 7 1000007 24 false (.sl (.int .i64)), .srow 9 1000009 3 true (.int .i64)], hasRet := true, res := [.srow 8 1000008 3 true (.int .i64)] }), (13, { head := [.sv 5 false (.ptr (.sl (.int .i64))), .srow 9 1000009 3 true (.int .i64), .sv 13 false (.fn 18 (.pair (.ptr (.sl (.int .i64))) (.pair (.ptr (.sl (.int .u8))) (.ptr (.sl (.int .i64)))))), .sv 14 true (.int .i64), .sv 15 true (.int .i64)], xid := 4, out := [.sv 5 false (.ptr (.sl (.int .i64))), .srow 9 1000009 3 true (.int .i64), .sv 13 false (.fn 18 (.pair (.ptr (.sl (.int .i64))) (.pair (.ptr (.sl (.int .u8))) (.ptr (.sl (.int .i64)))))), .sv 14 true (.int .i64), .sv 15 true (.int .i64)], hasRet := false, res := [] }), (11, { head := [.sv 5 false (.ptr (.sl (.int .i64))), .srow 9 1000009 3 true (.int .i64), .sv 13 false (.fn 18 (.pair (.ptr (.sl (.int .i64))) (.pair (.ptr (.sl (.int .u8))) (.ptr (.sl (.int .i64)))))), .sv 14 true (.int .i64)], xid := 2, out := [.srow 9 1000009 3 true (.int .i64)], hasRet := false, res := [] })]
noncomputable def marks_Fix_C : List (Nat × Callee) := [(17, .plain slices_Clone___int_int__fun), (18, .plain marks_Fix_1_fun), (19, .lent slices_Reverse___int_int__fun)]
noncomputable def marks_Fix_fun : Fun := ⟨[.sl (.int .i64), .sl (.int .i64), .sl (.int .u8), .sl (.int .i64)], [.row 3 (.int .i64)], fun x => marks_Fix_F x.1 x.2.1 x.2.2.1 x.2.2.2.1⟩
theorem marks_Fix_ev (x : Tys.I [.sl (.int .i64), .sl (.int .i64), .sl (.int .u8), .sl (.int .i64)]) : evFun G0 (fun f => olook f marks_Fix_C) ⟨[], [], [19], [], [], []⟩ (fun i => olook i marks_Fix_L) Try.f12 [.sl (.int .i64), .sl (.int .i64), .sl (.int .u8), .sl (.int .i64)] [.row 3 (.int .i64)] x = marks_Fix_T x.1 x.2.1 x.2.2.1 x.2.2.2.1 := by kernel_rfl
theorem marks_Fix_ok : FunOk Try.prog 12 marks_Fix_fun := evFun_ok mixed ctx0 (cons_calls (fb := .plain slices_Clone___int_int__fun) slices_Clone___int_int__ok (fun h => by cases h) (cons_calls (fb := .plain marks_Fix_1_fun) marks_Fix_1_ok (fun h => by cases h) (cons_calls (fb := .lent slices_Reverse___int_int__fun) slices_Reverse___int_int__ok (fun h => by rfl) (no_calls)))) Try.func12 (by kernel_rfl) _ (fun x => congrArg Tr.run (marks_Fix_ev x)) (by kernel_rfl) (by kernel_rfl)
/-! ### boustrophedon/boustrophedonlaw25.Same -/
noncomputable def law25_Same_L4 (a0 : List Int) (b1 : List Int) (k5 : Int) : Tr (Lap (List Int × List Int × Int) (Sum Unit Bool)) :=
  .br (decide (k5 < (a0.length : Int))) (
    .bnd (idx a0 k5) fun x_1 =>
    .bnd (idx b1 k5) fun x_2 =>
    .br (x_1 != x_2) (
      .pure (.done (.inr false))) (
      .pure (.next (a0, b1, IntKind.i64.wrap (k5 + 1))))) (
    .pure (.done (.inl ())))
noncomputable def law25_Same_T (a0 : List Int) (b1 : List Int) : Tr Bool :=
  .br ((a0.length : Int) != (b1.length : Int)) (
    .pure false) (
    .alt (loopW (fun s => (law25_Same_L4 s.1 s.2.1 s.2.2).run) (a0, b1, 0)) (fun l_3 =>
      .pure true) (fun l_4 =>
      .pure l_4))
noncomputable def law25_Same_F (a0 : List Int) (b1 : List Int) : Option Bool := (law25_Same_T a0 b1).run
def law25_Same_L : List (Nat × LoopAnn) := [(4, { head := [.sv 0 false (.sl (.int .i64)), .sv 1 false (.sl (.int .i64)), .sv 5 true (.int .i64)], xid := 0, out := [], hasRet := true, res := [.sv 4 true .bool] })]
noncomputable def law25_Same_C : List (Nat × Callee) := []
noncomputable def law25_Same_fun : Fun := ⟨[.sl (.int .i64), .sl (.int .i64)], [.v .bool], fun x => law25_Same_F x.1 x.2.1⟩
theorem law25_Same_ev (x : Tys.I [.sl (.int .i64), .sl (.int .i64)]) : evFun G0 (fun f => olook f law25_Same_C) ⟨[], [], [], [], [], []⟩ (fun i => olook i law25_Same_L) Try.f13 [.sl (.int .i64), .sl (.int .i64)] [.v .bool] x = law25_Same_T x.1 x.2.1 := by kernel_rfl
theorem law25_Same_ok : FunOk Try.prog 13 law25_Same_fun := evFun_ok mixed ctx0 (no_calls) Try.func13 (by kernel_rfl) _ (fun x => congrArg Tr.run (law25_Same_ev x)) (by kernel_rfl) (by kernel_rfl)
/-! ### boustrophedon/boustrophedonlaw26.awake -/
noncomputable def law26_awake_T : Tr Bool :=
  .bnd (marks_Fix_F ([2, 1, 0]) ([1, 1, 1]) ([1, 8, 8]) ([1, 0, 0])) fun c_1 =>
  .bnd (law25_Same_F c_1 ([0, 1, 2])) fun c_2 =>
  .br c_2 (
    .bnd (marks_Fix_F ([2, 1, 0]) ([2, 2, 2]) ([1, 8, 8]) ([1, 0, 0])) fun c_3 =>
    .bnd (law25_Same_F c_3 ([2, 1, 0])) fun c_4 =>
    .pure c_4) (
    .pure false)
noncomputable def law26_awake_F : Option Bool := (law26_awake_T).run
def law26_awake_L : List (Nat × LoopAnn) := []
noncomputable def law26_awake_C : List (Nat × Callee) := [(12, .plain marks_Fix_fun), (13, .plain law25_Same_fun)]
noncomputable def law26_awake_fun : Fun := ⟨[], [.v .bool], fun _ => law26_awake_F⟩
theorem law26_awake_ev (x : Tys.I []) : evFun G0 (fun f => olook f law26_awake_C) ⟨[], [], [], [], [], []⟩ (fun i => olook i law26_awake_L) Try.f7 [] [.v .bool] x = law26_awake_T := by kernel_rfl
theorem law26_awake_ok : FunOk Try.prog 7 law26_awake_fun := evFun_ok mixed ctx0 (cons_calls (fb := .plain marks_Fix_fun) marks_Fix_ok (fun h => by cases h) (cons_calls (fb := .plain law25_Same_fun) law25_Same_ok (fun h => by cases h) (no_calls))) Try.func7 (by kernel_rfl) _ (fun x => congrArg Tr.run (law26_awake_ev x)) (by kernel_rfl) (by kernel_rfl)
/-! ### boustrophedon/boustrophedonlaw12.Levels -/
noncomputable def law12_Levels_L3 (ns0 : List Int) (out3 : List Int) (k4 : Int) : Tr (Lap (List Int × List Int × Int) (List Int)) :=
  .br (decide (k4 < (ns0.length : Int))) (
    .bnd (idx ns0 k4) fun x_1 =>
    .br ((x_1.tmod 8) == 7) (
      .bnd (app 17592186044416 out3 ([(-1)])) fun r_2 =>
      .pure (.next (ns0, r_2, IntKind.i64.wrap (k4 + 1)))) (
      .bnd (idx ns0 k4) fun x_3 =>
      .bnd (app 17592186044416 out3 ([(IntKind.i64.wrap (IntKind.u8.wrap (x_3.tdiv 8))).tmod 6])) fun r_4 =>
      .pure (.next (ns0, r_4, IntKind.i64.wrap (k4 + 1))))) (
    .pure (.done out3))
noncomputable def law12_Levels_T (ns0 : List Int) : Tr (List Int) :=
  .bnd (loopW (fun s => (law12_Levels_L3 s.1 s.2.1 s.2.2).run) (ns0, [], 0)) fun l_5 =>
  .pure l_5
noncomputable def law12_Levels_F (ns0 : List Int) : Option (List Int) := (law12_Levels_T ns0).run
def law12_Levels_L : List (Nat × LoopAnn) := [(3, { head := [.sv 0 false (.sl (.int .u8)), .srow 3 1000003 3 true (.int .i64), .sv 4 true (.int .i64)], xid := 0, out := [.srow 3 1000003 3 true (.int .i64)], hasRet := false, res := [] })]
noncomputable def law12_Levels_C : List (Nat × Callee) := []
noncomputable def law12_Levels_fun : Fun := ⟨[.sl (.int .u8)], [.row 3 (.int .i64)], fun x => law12_Levels_F x.1⟩
theorem law12_Levels_ev (x : Tys.I [.sl (.int .u8)]) : evFun G0 (fun f => olook f law12_Levels_C) ⟨[], [], [], [], [], []⟩ (fun i => olook i law12_Levels_L) Try.f8 [.sl (.int .u8)] [.row 3 (.int .i64)] x = law12_Levels_T x.1 := by kernel_rfl
theorem law12_Levels_ok : FunOk Try.prog 8 law12_Levels_fun := evFun_ok mixed ctx0 (no_calls) Try.func8 (by kernel_rfl) _ (fun x => congrArg Tr.run (law12_Levels_ev x)) (by kernel_rfl) (by kernel_rfl)
/-! ### boustrophedon/boustrophedonlaw08.Classes -/
noncomputable def law08_Classes_L3 (ns0 : List Int) (out3 : List Int) (k4 : Int) : Tr (Lap (List Int × List Int × Int) (List Int)) :=
  .br (decide (k4 < (ns0.length : Int))) (
    .bnd (idx ns0 k4) fun x_1 =>
    .bnd (app 140737488355328 out3 ([x_1.tmod 23])) fun r_2 =>
    .pure (.next (ns0, r_2, IntKind.i64.wrap (k4 + 1)))) (
    .pure (.done out3))
noncomputable def law08_Classes_T (ns0 : List Int) : Tr (List Int) :=
  .bnd (loopW (fun s => (law08_Classes_L3 s.1 s.2.1 s.2.2).run) (ns0, [], 0)) fun l_3 =>
  .pure l_3
noncomputable def law08_Classes_F (ns0 : List Int) : Option (List Int) := (law08_Classes_T ns0).run
def law08_Classes_L : List (Nat × LoopAnn) := [(3, { head := [.sv 0 false (.sl (.int .u8)), .srow 3 1000003 35 true (.int .u8), .sv 4 true (.int .i64)], xid := 0, out := [.srow 3 1000003 35 true (.int .u8)], hasRet := false, res := [] })]
noncomputable def law08_Classes_C : List (Nat × Callee) := []
noncomputable def law08_Classes_fun : Fun := ⟨[.sl (.int .u8)], [.row 35 (.int .u8)], fun x => law08_Classes_F x.1⟩
theorem law08_Classes_ev (x : Tys.I [.sl (.int .u8)]) : evFun G0 (fun f => olook f law08_Classes_C) ⟨[], [], [], [], [], []⟩ (fun i => olook i law08_Classes_L) Try.f9 [.sl (.int .u8)] [.row 35 (.int .u8)] x = law08_Classes_T x.1 := by kernel_rfl
theorem law08_Classes_ok : FunOk Try.prog 9 law08_Classes_fun := evFun_ok mixed ctx0 (no_calls) Try.func9 (by kernel_rfl) _ (fun x => congrArg Tr.run (law08_Classes_ev x)) (by kernel_rfl) (by kernel_rfl)
/-! ### boustrophedon/boustrophedonlaw22.Widths -/
noncomputable def law22_Widths_L3 (ns0 : List Int) (out3 : List Int) (k4 : Int) : Tr (Lap (List Int × List Int × Int) (List Int)) :=
  .br (decide (k4 < (ns0.length : Int))) (
    .bnd (idx ns0 k4) fun x_1 =>
    .bnd (app 17592186044416 out3 ([IntKind.i64.wrap (x_1.tmod 3)])) fun r_2 =>
    .pure (.next (ns0, r_2, IntKind.i64.wrap (k4 + 1)))) (
    .pure (.done out3))
noncomputable def law22_Widths_T (ns0 : List Int) : Tr (List Int) :=
  .bnd (loopW (fun s => (law22_Widths_L3 s.1 s.2.1 s.2.2).run) (ns0, [], 0)) fun l_3 =>
  .pure l_3
noncomputable def law22_Widths_F (ns0 : List Int) : Option (List Int) := (law22_Widths_T ns0).run
def law22_Widths_L : List (Nat × LoopAnn) := [(3, { head := [.sv 0 false (.sl (.int .u8)), .srow 3 1000003 3 true (.int .i64), .sv 4 true (.int .i64)], xid := 0, out := [.srow 3 1000003 3 true (.int .i64)], hasRet := false, res := [] })]
noncomputable def law22_Widths_C : List (Nat × Callee) := []
noncomputable def law22_Widths_fun : Fun := ⟨[.sl (.int .u8)], [.row 3 (.int .i64)], fun x => law22_Widths_F x.1⟩
theorem law22_Widths_ev (x : Tys.I [.sl (.int .u8)]) : evFun G0 (fun f => olook f law22_Widths_C) ⟨[], [], [], [], [], []⟩ (fun i => olook i law22_Widths_L) Try.f10 [.sl (.int .u8)] [.row 3 (.int .i64)] x = law22_Widths_T x.1 := by kernel_rfl
theorem law22_Widths_ok : FunOk Try.prog 10 law22_Widths_fun := evFun_ok mixed ctx0 (no_calls) Try.func10 (by kernel_rfl) _ (fun x => congrArg Tr.run (law22_Widths_ev x)) (by kernel_rfl) (by kernel_rfl)
/-! ### boustrophedon/order.reverse -/
noncomputable def order_reverse_L3 (visual0 : List Int) (levels1 : List Int) (level2 : Int) (from6 : Int) (to7 : Int) : Tr (Lap (List Int × List Int × Int × Int × Int) (List Int × List Int × Int × Int × Int)) :=
  .br (decide (to7 < (visual0.length : Int))) (
    .bnd (idx visual0 to7) fun _ =>
    .bnd (idx visual0 to7) fun x_2 =>
    .bnd (idx levels1 x_2) fun x_3 =>
    .br (decide (x_3 ≥ level2)) (
      .pure (.next (visual0, levels1, level2, from6, IntKind.i64.wrap (to7 + 1)))) (
      .pure (.done (visual0, levels1, level2, from6, to7)))) (
    .pure (.done (visual0, levels1, level2, from6, to7)))
noncomputable def order_reverse_L1 (visual0 : List Int) (levels1 : List Int) (level2 : Int) (from6 : Int) : Tr (Lap (List Int × List Int × Int × Int) (List Int)) :=
  .br (decide (from6 < (visual0.length : Int))) (
    .bnd (loopW (fun s => (order_reverse_L3 s.1 s.2.1 s.2.2.1 s.2.2.2.1 s.2.2.2.2).run) (visual0, levels1, level2, from6, from6)) fun l_4 =>
    .bnd (cut l_4.1 l_4.2.2.2.1 l_4.2.2.2.2) fun r_5 =>
    .bnd (slices_Reverse___int_int__F ((l_4.1.drop ((l_4.2.2.2.1).toNat)).take r_5.length)) fun c_6 =>
    .pure (.next (splice' l_4.1 ((l_4.2.2.2.1).toNat) r_5.length c_6.1, l_4.2.1, l_4.2.2.1, IntKind.i64.wrap (l_4.2.2.2.2 + 1)))) (
    .pure (.done visual0))
noncomputable def order_reverse_T (visual0 : List Int) (levels1 : List Int) (level2 : Int) : Tr (List Int × Unit) :=
  .bnd (loopW (fun s => (order_reverse_L1 s.1 s.2.1 s.2.2.1 s.2.2.2).run) (visual0, levels1, level2, 0)) fun l_7 =>
  .pure (l_7, ())
noncomputable def order_reverse_F (visual0 : List Int) (levels1 : List Int) (level2 : Int) : Option (List Int × Unit) := (order_reverse_T visual0 levels1 level2).run
def order_reverse_L : List (Nat × LoopAnn) := [(3, { head := [.slrow 0 3 (.int .i64), .sv 1 false (.sl (.int .i64)), .sv 2 false (.int .i64), .sv 6 true (.int .i64), .sv 7 true (.int .i64)], xid := 2, out := [.slrow 0 3 (.int .i64), .sv 1 false (.sl (.int .i64)), .sv 2 false (.int .i64), .sv 6 true (.int .i64), .sv 7 true (.int .i64)], hasRet := false, res := [] }), (1, { head := [.slrow 0 3 (.int .i64), .sv 1 false (.sl (.int .i64)), .sv 2 false (.int .i64), .sv 6 true (.int .i64)], xid := 0, out := [.slrow 0 3 (.int .i64)], hasRet := false, res := [] })]
noncomputable def order_reverse_C : List (Nat × Callee) := [(19, .lent slices_Reverse___int_int__fun)]
noncomputable def order_reverse_fun : LFun := ⟨3, (.int .i64), [.sl (.int .i64), .int .i64], [], fun s x => order_reverse_F s x.1 x.2.1⟩
theorem order_reverse_ev (s : List Int) (x : Tys.I [.sl (.int .i64), .int .i64]) : evFunL G0 (fun f => olook f order_reverse_C) ⟨[], [], [19], [], [], []⟩ (fun i => olook i order_reverse_L) Try.f16 3 (.int .i64) [.sl (.int .i64), .int .i64] [] s x = order_reverse_T s x.1 x.2.1 := by kernel_rfl
theorem order_reverse_ok : LentOk Try.prog 16 order_reverse_fun := evFunL_ok mixed ctx0 (cons_calls (fb := .lent slices_Reverse___int_int__fun) slices_Reverse___int_int__ok (fun h => by rfl) (no_calls)) Try.func16 (by kernel_rfl) rfl _ (fun s x => congrArg Tr.run (order_reverse_ev s x)) (by kernel_rfl)
/-! ### boustrophedon/order.Visual -/
noncomputable def order_Visual_L4 (levels0 : List Int) (visual3 : List Int) (top4 : Int) (t8 : List Int) (t9 : Int) (t10 : Int) : Tr (Lap (List Int × List Int × Int × List Int × Int × Int) (List Int × List Int × Int)) :=
  .br (decide (t10 < t9)) (
    .bnd (idx t8 t10) fun x_1 =>
    .br (x_1 != (-1)) (
      .bnd (app 17592186044416 visual3 ([t10])) fun r_2 =>
      .pure (.next (levels0, r_2, if (if 126 < x_1 then 126 else x_1) > top4 then (if 126 < x_1 then 126 else x_1) else top4, t8, t9, IntKind.i64.wrap (t10 + 1)))) (
      .pure (.next (levels0, visual3, top4, t8, t9, IntKind.i64.wrap (t10 + 1))))) (
    .pure (.done (levels0, visual3, top4)))
noncomputable def order_Visual_L11 (levels0 : List Int) (visual3 : List Int) (level7 : Int) : Tr (Lap (List Int × List Int × Int) (List Int)) :=
  .br (decide (level7 > 0)) (
    .bnd (order_reverse_F visual3 levels0 level7) fun c_4 =>
    .pure (.next (levels0, c_4.1, IntKind.i64.wrap (level7 - 1)))) (
    .pure (.done visual3))
noncomputable def order_Visual_T (levels0 : List Int) : Tr (List Int) :=
  .bnd (loopW (fun s => (order_Visual_L4 s.1 s.2.1 s.2.2.1 s.2.2.2.1 s.2.2.2.2.1 s.2.2.2.2.2).run) (levels0, [], 0, levels0, (levels0.length : Int), 0)) fun l_3 =>
  .bnd (loopW (fun s => (order_Visual_L11 s.1 s.2.1 s.2.2).run) (l_3.1, l_3.2.1, l_3.2.2)) fun l_5 =>
  .pure l_5
noncomputable def order_Visual_F (levels0 : List Int) : Option (List Int) := (order_Visual_T levels0).run
def order_Visual_L : List (Nat × LoopAnn) := [(4, { head := [.sv 0 false (.sl (.int .i64)), .srow 3 1000003 3 true (.int .i64), .sv 4 true (.int .i64), .sv 8 false (.sl (.int .i64)), .sv 9 true (.int .i64), .sv 10 true (.int .i64)], xid := 0, out := [.sv 0 false (.sl (.int .i64)), .srow 3 1000003 3 true (.int .i64), .sv 4 true (.int .i64)], hasRet := false, res := [] }), (11, { head := [.sv 0 false (.sl (.int .i64)), .srow 3 1000003 3 true (.int .i64), .sv 7 true (.int .i64)], xid := 2, out := [.srow 3 1000003 3 true (.int .i64)], hasRet := false, res := [] })]
noncomputable def order_Visual_C : List (Nat × Callee) := [(16, .lent order_reverse_fun)]
noncomputable def order_Visual_fun : Fun := ⟨[.sl (.int .i64)], [.row 3 (.int .i64)], fun x => order_Visual_F x.1⟩
theorem order_Visual_ev (x : Tys.I [.sl (.int .i64)]) : evFun G0 (fun f => olook f order_Visual_C) ⟨[], [], [16], [], [], []⟩ (fun i => olook i order_Visual_L) Try.f11 [.sl (.int .i64)] [.row 3 (.int .i64)] x = order_Visual_T x.1 := by kernel_rfl
theorem order_Visual_ok : FunOk Try.prog 11 order_Visual_fun := evFun_ok mixed ctx0 (cons_calls (fb := .lent order_reverse_fun) order_reverse_ok (fun h => by rfl) (no_calls)) Try.func11 (by kernel_rfl) _ (fun x => congrArg Tr.run (order_Visual_ev x)) (by kernel_rfl) (by kernel_rfl)
/-! ### boustrophedon/boustrophedonlaw26.mark -/
noncomputable def law26_mark_T (levels0 : List Int) (cs1 : List Int) (widths2 : List Int) (p3 : Int) : Tr Bool :=
  .bnd (idx levels0 p3) fun x_1 =>
  .br ((x_1.tmod 2) == 1) (
    .bnd (idx cs1 p3) fun x_2 =>
    .br (x_2 == 8) (
      .bnd (idx widths2 p3) fun x_3 =>
      .pure (x_3 == 0)) (
      .pure false)) (
    .pure false)
noncomputable def law26_mark_F (levels0 : List Int) (cs1 : List Int) (widths2 : List Int) (p3 : Int) : Option Bool := (law26_mark_T levels0 cs1 widths2 p3).run
def law26_mark_L : List (Nat × LoopAnn) := []
noncomputable def law26_mark_C : List (Nat × Callee) := []
noncomputable def law26_mark_fun : Fun := ⟨[.sl (.int .i64), .sl (.int .u8), .sl (.int .i64), .int .i64], [.v .bool], fun x => law26_mark_F x.1 x.2.1 x.2.2.1 x.2.2.2.1⟩
theorem law26_mark_ev (x : Tys.I [.sl (.int .i64), .sl (.int .u8), .sl (.int .i64), .int .i64]) : evFun G0 (fun f => olook f law26_mark_C) ⟨[], [], [], [], [], []⟩ (fun i => olook i law26_mark_L) Try.f20 [.sl (.int .i64), .sl (.int .u8), .sl (.int .i64), .int .i64] [.v .bool] x = law26_mark_T x.1 x.2.1 x.2.2.1 x.2.2.2.1 := by kernel_rfl
theorem law26_mark_ok : FunOk Try.prog 20 law26_mark_fun := evFun_ok mixed ctx0 (no_calls) Try.func20 (by kernel_rfl) _ (fun x => congrArg Tr.run (law26_mark_ev x)) (by kernel_rfl) (by kernel_rfl)
/-! ### boustrophedon/boustrophedonlaw26.want -/
noncomputable def law26_want_L4 (visual0 : List Int) (levels1 : List Int) (cs2 : List Int) (widths3 : List Int) (n9 : Int) (k11 : Int) : Tr (Lap (List Int × List Int × List Int × List Int × Int × Int) (Sum (List Int × List Int × List Int × List Int) (List Int))) :=
  .br (decide (k11 < (visual0.length : Int))) (
    .bnd (idx visual0 k11) fun x_1 =>
    .br (decide (x_1 < 0)) (
      .pure (.done (.inr visual0))) (
      .bnd (idx visual0 k11) fun x_2 =>
      .br (decide (x_2 ≥ n9)) (
        .pure (.done (.inr visual0))) (
        .pure (.next (visual0, levels1, cs2, widths3, n9, IntKind.i64.wrap (k11 + 1)))))) (
    .pure (.done (.inl (visual0, levels1, cs2, widths3))))
noncomputable def law26_want_L11 (visual0 : List Int) (levels1 : List Int) (cs2 : List Int) (widths3 : List Int) (out10 : List Int) (k12 : Int) (end13 : Int) : Tr (Lap (List Int × List Int × List Int × List Int × List Int × Int × Int) (List Int × List Int × List Int × List Int × List Int × Int × Int)) :=
  .br (decide (end13 < (visual0.length : Int))) (
    .bnd (idx visual0 end13) fun x_4 =>
    .bnd (law26_mark_F levels1 cs2 widths3 x_4) fun c_5 =>
    .br c_5 (
      .pure (.next (visual0, levels1, cs2, widths3, out10, k12, IntKind.i64.wrap (end13 + 1)))) (
      .pure (.done (visual0, levels1, cs2, widths3, out10, k12, end13)))) (
    .pure (.done (visual0, levels1, cs2, widths3, out10, k12, end13)))
noncomputable def law26_want_L18 (visual0 : List Int) (levels1 : List Int) (cs2 : List Int) (widths3 : List Int) (out10 : List Int) (k12 : Int) (end13 : Int) (i14 : Int) : Tr (Lap (List Int × List Int × List Int × List Int × List Int × Int × Int × Int) (List Int × List Int × List Int × List Int × List Int × Int)) :=
  .br (decide (i14 ≥ k12)) (
    .bnd (idx visual0 i14) fun x_13 =>
    .bnd (app 17592186044416 out10 ([x_13])) fun r_14 =>
    .pure (.next (visual0, levels1, cs2, widths3, r_14, k12, end13, IntKind.i64.wrap (i14 - 1)))) (
    .pure (.done (visual0, levels1, cs2, widths3, out10, end13)))
noncomputable def law26_want_L9 (visual0 : List Int) (levels1 : List Int) (cs2 : List Int) (widths3 : List Int) (out10 : List Int) (k12 : Int) : Tr (Lap (List Int × List Int × List Int × List Int × List Int × Int) (List Int)) :=
  .br (decide (k12 < (visual0.length : Int))) (
    .bnd (loopW (fun s => (law26_want_L11 s.1 s.2.1 s.2.2.1 s.2.2.2.1 s.2.2.2.2.1 s.2.2.2.2.2.1 s.2.2.2.2.2.2).run) (visual0, levels1, cs2, widths3, out10, k12, k12)) fun l_6 =>
    .br (l_6.2.2.2.2.2.2 == l_6.2.2.2.2.2.1) (
      .bnd (idx l_6.1 l_6.2.2.2.2.2.1) fun x_7 =>
      .bnd (app 17592186044416 l_6.2.2.2.2.1 ([x_7])) fun r_8 =>
      .pure (.next (l_6.1, l_6.2.1, l_6.2.2.1, l_6.2.2.2.1, r_8, IntKind.i64.wrap (l_6.2.2.2.2.2.1 + 1)))) (
      .br (decide (l_6.2.2.2.2.2.2 < (l_6.1.length : Int))) (
        .bnd (idx l_6.1 l_6.2.2.2.2.2.2) fun x_9 =>
        .bnd (idx l_6.2.1 x_9) fun x_10 =>
        .bnd (idx l_6.1 l_6.2.2.2.2.2.1) fun x_11 =>
        .bnd (idx l_6.2.1 x_11) fun x_12 =>
        .br (x_10 == x_12) (
          .bnd (loopW (fun s => (law26_want_L18 s.1 s.2.1 s.2.2.1 s.2.2.2.1 s.2.2.2.2.1 s.2.2.2.2.2.1 s.2.2.2.2.2.2.1 s.2.2.2.2.2.2.2).run) (l_6.1, l_6.2.1, l_6.2.2.1, l_6.2.2.2.1, l_6.2.2.2.2.1, l_6.2.2.2.2.2.1, l_6.2.2.2.2.2.2, l_6.2.2.2.2.2.2)) fun l_15 =>
          .pure (.next (l_15.1, l_15.2.1, l_15.2.2.1, l_15.2.2.2.1, l_15.2.2.2.2.1, IntKind.i64.wrap (l_15.2.2.2.2.2 + 1)))) (
          .bnd (cut l_6.1 l_6.2.2.2.2.2.1 l_6.2.2.2.2.2.2) fun r_16 =>
          .bnd (app 17592186044416 l_6.2.2.2.2.1 r_16) fun r_17 =>
          .pure (.next (l_6.1, l_6.2.1, l_6.2.2.1, l_6.2.2.2.1, r_17, l_6.2.2.2.2.2.2)))) (
        .bnd (cut l_6.1 l_6.2.2.2.2.2.1 l_6.2.2.2.2.2.2) fun r_18 =>
        .bnd (app 17592186044416 l_6.2.2.2.2.1 r_18) fun r_19 =>
        .pure (.next (l_6.1, l_6.2.1, l_6.2.2.1, l_6.2.2.2.1, r_19, l_6.2.2.2.2.2.2))))) (
    .pure (.done out10))
noncomputable def law26_want_T (visual0 : List Int) (levels1 : List Int) (cs2 : List Int) (widths3 : List Int) : Tr (List Int × Unit) :=
  .alt (loopW (fun s => (law26_want_L4 s.1 s.2.1 s.2.2.1 s.2.2.2.1 s.2.2.2.2.1 s.2.2.2.2.2).run) (visual0, levels1, cs2, widths3, if (widths3.length : Int) < (if (cs2.length : Int) < (levels1.length : Int) then (cs2.length : Int) else (levels1.length : Int)) then (widths3.length : Int) else (if (cs2.length : Int) < (levels1.length : Int) then (cs2.length : Int) else (levels1.length : Int)), 0)) (fun l_3 =>
    .bnd (loopW (fun s => (law26_want_L9 s.1 s.2.1 s.2.2.1 s.2.2.2.1 s.2.2.2.2.1 s.2.2.2.2.2).run) (l_3.1, l_3.2.1, l_3.2.2.1, l_3.2.2.2, [], 0)) fun l_20 =>
    .pure (l_20, ())) (fun l_21 =>
    .pure (l_21, ()))
noncomputable def law26_want_F (visual0 : List Int) (levels1 : List Int) (cs2 : List Int) (widths3 : List Int) : Option (List Int × Unit) := (law26_want_T visual0 levels1 cs2 widths3).run
def law26_want_L : List (Nat × LoopAnn) := [(4, { head := [.snil 10, .sv 0 false (.sl (.int .i64)), .sv 1 false (.sl (.int .i64)), .sv 2 false (.sl (.int .u8)), .sv 3 false (.sl (.int .i64)), .sv 9 true (.int .i64), .sv 11 true (.int .i64)], xid := 0, out := [.snil 10, .sv 0 false (.sl (.int .i64)), .sv 1 false (.sl (.int .i64)), .sv 2 false (.sl (.int .u8)), .sv 3 false (.sl (.int .i64))], hasRet := true, res := [.sv 8 false (.sl (.int .i64))] }), (11, { head := [.sv 0 false (.sl (.int .i64)), .sv 1 false (.sl (.int .i64)), .sv 2 false (.sl (.int .u8)), .sv 3 false (.sl (.int .i64)), .srow 10 1000010 3 true (.int .i64), .sv 12 true (.int .i64), .sv 13 true (.int .i64)], xid := 4, out := [.sv 0 false (.sl (.int .i64)), .sv 1 false (.sl (.int .i64)), .sv 2 false (.sl (.int .u8)), .sv 3 false (.sl (.int .i64)), .srow 10 1000010 3 true (.int .i64), .sv 12 true (.int .i64), .sv 13 true (.int .i64)], hasRet := false, res := [] }), (18, { head := [.sv 0 false (.sl (.int .i64)), .sv 1 false (.sl (.int .i64)), .sv 2 false (.sl (.int .u8)), .sv 3 false (.sl (.int .i64)), .srow 10 1000010 3 true (.int .i64), .sv 12 true (.int .i64), .sv 13 true (.int .i64), .sv 14 true (.int .i64)], xid := 6, out := [.sv 0 false (.sl (.int .i64)), .sv 1 false (.sl (.int .i64)), .sv 2 false (.sl (.int .u8)), .sv 3 false (.sl (.int .i64)), .srow 10 1000010 3 true (.int .i64), .sv 13 true (.int .i64)], hasRet := false, res := [] }), (9, { head := [.sv 0 false (.sl (.int .i64)), .sv 1 false (.sl (.int .i64)), .sv 2 false (.sl (.int .u8)), .sv 3 false (.sl (.int .i64)), .srow 10 1000010 3 true (.int .i64), .sv 12 true (.int .i64)], xid := 2, out := [.srow 10 1000010 3 true (.int .i64)], hasRet := false, res := [] })]
noncomputable def law26_want_C : List (Nat × Callee) := [(20, .plain law26_mark_fun)]
noncomputable def law26_want_fun : OFun := ⟨[.sl (.int .i64), .sl (.int .i64), .sl (.int .u8), .sl (.int .i64)], (.sl (.int .i64)), [], fun x => law26_want_F x.1 x.2.1 x.2.2.1 x.2.2.2.1⟩
theorem law26_want_ev (x : Tys.I [.sl (.int .i64), .sl (.int .i64), .sl (.int .u8), .sl (.int .i64)]) : evFunO G0 (fun f => olook f law26_want_C) ⟨[], [], [], [], [], []⟩ (fun i => olook i law26_want_L) Try.f14 [.sl (.int .i64), .sl (.int .i64), .sl (.int .u8), .sl (.int .i64)] (.sl (.int .i64)) [] x = law26_want_T x.1 x.2.1 x.2.2.1 x.2.2.2.1 := by kernel_rfl
theorem law26_want_ok : OldOk Try.prog 14 law26_want_fun := evFunO_ok mixed ctx0 (cons_calls (fb := .plain law26_mark_fun) law26_mark_ok (fun h => by cases h) (no_calls)) Try.func14 (by kernel_rfl) _ (fun x => congrArg Tr.run (law26_want_ev x)) (by kernel_rfl)
/-! ### boustrophedon/boustrophedonlaw26.MarksFix -/
noncomputable def law26_MarksFix_T (ls0 : List Int) (ns1 : List Int) (ws2 : List Int) : Tr Bool :=
  .bnd law26_awake_F fun c_1 =>
  .br (!c_1) (
    .pure false) (
    .bnd (law12_Levels_F ls0) fun c_2 =>
    .bnd (law08_Classes_F ns1) fun c_3 =>
    .bnd (law22_Widths_F ws2) fun c_4 =>
    .bnd (cut c_2 0 (if (c_4.length : Int) < (if (c_3.length : Int) < (c_2.length : Int) then (c_3.length : Int) else (c_2.length : Int)) then (c_4.length : Int) else (if (c_3.length : Int) < (c_2.length : Int) then (c_3.length : Int) else (c_2.length : Int)))) fun r_5 =>
    .bnd (order_Visual_F r_5) fun c_6 =>
    .bnd (app 17592186044416 [] c_6) fun r_7 =>
    .bnd (cut c_2 0 (if (c_4.length : Int) < (if (c_3.length : Int) < (c_2.length : Int) then (c_3.length : Int) else (c_2.length : Int)) then (c_4.length : Int) else (if (c_3.length : Int) < (c_2.length : Int) then (c_3.length : Int) else (c_2.length : Int)))) fun r_8 =>
    .bnd (cut c_3 0 (if (c_4.length : Int) < (if (c_3.length : Int) < (c_2.length : Int) then (c_3.length : Int) else (c_2.length : Int)) then (c_4.length : Int) else (if (c_3.length : Int) < (c_2.length : Int) then (c_3.length : Int) else (c_2.length : Int)))) fun r_9 =>
    .bnd (cut c_4 0 (if (c_4.length : Int) < (if (c_3.length : Int) < (c_2.length : Int) then (c_3.length : Int) else (c_2.length : Int)) then (c_4.length : Int) else (if (c_3.length : Int) < (c_2.length : Int) then (c_3.length : Int) else (c_2.length : Int)))) fun r_10 =>
    .bnd (marks_Fix_F c_6 r_8 r_9 r_10) fun c_11 =>
    .bnd (law25_Same_F c_6 r_7) fun c_12 =>
    .br c_12 (
      .bnd (cut c_2 0 (if (c_4.length : Int) < (if (c_3.length : Int) < (c_2.length : Int) then (c_3.length : Int) else (c_2.length : Int)) then (c_4.length : Int) else (if (c_3.length : Int) < (c_2.length : Int) then (c_3.length : Int) else (c_2.length : Int)))) fun r_13 =>
      .bnd (cut c_3 0 (if (c_4.length : Int) < (if (c_3.length : Int) < (c_2.length : Int) then (c_3.length : Int) else (c_2.length : Int)) then (c_4.length : Int) else (if (c_3.length : Int) < (c_2.length : Int) then (c_3.length : Int) else (c_2.length : Int)))) fun r_14 =>
      .bnd (cut c_4 0 (if (c_4.length : Int) < (if (c_3.length : Int) < (c_2.length : Int) then (c_3.length : Int) else (c_2.length : Int)) then (c_4.length : Int) else (if (c_3.length : Int) < (c_2.length : Int) then (c_3.length : Int) else (c_2.length : Int)))) fun r_15 =>
      .bnd (law26_want_F c_6 r_13 r_14 r_15) fun c_16 =>
      .bnd (law25_Same_F c_11 c_16.1) fun c_17 =>
      .pure c_17) (
      .pure false))
noncomputable def law26_MarksFix_F (ls0 : List Int) (ns1 : List Int) (ws2 : List Int) : Option Bool := (law26_MarksFix_T ls0 ns1 ws2).run
def law26_MarksFix_L : List (Nat × LoopAnn) := []
noncomputable def law26_MarksFix_C : List (Nat × Callee) := [(7, .plain law26_awake_fun), (8, .plain law12_Levels_fun), (9, .plain law08_Classes_fun), (10, .plain law22_Widths_fun), (11, .plain order_Visual_fun), (12, .plain marks_Fix_fun), (13, .plain law25_Same_fun), (14, .old law26_want_fun)]
noncomputable def law26_MarksFix_fun : Fun := ⟨[.sl (.int .u8), .sl (.int .u8), .sl (.int .u8)], [.v .bool], fun x => law26_MarksFix_F x.1 x.2.1 x.2.2.1⟩
theorem law26_MarksFix_ev (x : Tys.I [.sl (.int .u8), .sl (.int .u8), .sl (.int .u8)]) : evFun G0 (fun f => olook f law26_MarksFix_C) ⟨[], [], [], [], [], []⟩ (fun i => olook i law26_MarksFix_L) Try.f3 [.sl (.int .u8), .sl (.int .u8), .sl (.int .u8)] [.v .bool] x = law26_MarksFix_T x.1 x.2.1 x.2.2.1 := by kernel_rfl
theorem law26_MarksFix_ok : FunOk Try.prog 3 law26_MarksFix_fun := evFun_ok mixed ctx0 (cons_calls (fb := .plain law26_awake_fun) law26_awake_ok (fun h => by cases h) (cons_calls (fb := .plain law12_Levels_fun) law12_Levels_ok (fun h => by cases h) (cons_calls (fb := .plain law08_Classes_fun) law08_Classes_ok (fun h => by cases h) (cons_calls (fb := .plain law22_Widths_fun) law22_Widths_ok (fun h => by cases h) (cons_calls (fb := .plain order_Visual_fun) order_Visual_ok (fun h => by cases h) (cons_calls (fb := .plain marks_Fix_fun) marks_Fix_ok (fun h => by cases h) (cons_calls (fb := .plain law25_Same_fun) law25_Same_ok (fun h => by cases h) (cons_calls (fb := .old law26_want_fun) law26_want_ok (fun h => by cases h) (no_calls))))))))) Try.func3 (by kernel_rfl) _ (fun x => congrArg Tr.run (law26_MarksFix_ev x)) (by kernel_rfl) (by kernel_rfl)
/-! ### boustrophedon/boustrophedonlaw26.MarksRaw -/
noncomputable def law26_MarksRaw_T (visual0 : List Int) (ls1 : List Int) (ns2 : List Int) (ws3 : List Int) : Tr Bool :=
  .bnd law26_awake_F fun c_1 =>
  .br (!c_1) (
    .pure false) (
    .bnd (law12_Levels_F ls1) fun c_2 =>
    .bnd (law08_Classes_F ns2) fun c_3 =>
    .bnd (law22_Widths_F ws3) fun c_4 =>
    .bnd (marks_Fix_F visual0 c_2 c_3 c_4) fun c_5 =>
    .bnd (law26_want_F visual0 c_2 c_3 c_4) fun c_6 =>
    .bnd (law25_Same_F c_5 c_6.1) fun c_7 =>
    .pure c_7)
noncomputable def law26_MarksRaw_F (visual0 : List Int) (ls1 : List Int) (ns2 : List Int) (ws3 : List Int) : Option Bool := (law26_MarksRaw_T visual0 ls1 ns2 ws3).run
def law26_MarksRaw_L : List (Nat × LoopAnn) := []
noncomputable def law26_MarksRaw_C : List (Nat × Callee) := [(7, .plain law26_awake_fun), (8, .plain law12_Levels_fun), (9, .plain law08_Classes_fun), (10, .plain law22_Widths_fun), (12, .plain marks_Fix_fun), (14, .old law26_want_fun), (13, .plain law25_Same_fun)]
noncomputable def law26_MarksRaw_fun : Fun := ⟨[.sl (.int .i64), .sl (.int .u8), .sl (.int .u8), .sl (.int .u8)], [.v .bool], fun x => law26_MarksRaw_F x.1 x.2.1 x.2.2.1 x.2.2.2.1⟩
theorem law26_MarksRaw_ev (x : Tys.I [.sl (.int .i64), .sl (.int .u8), .sl (.int .u8), .sl (.int .u8)]) : evFun G0 (fun f => olook f law26_MarksRaw_C) ⟨[], [], [], [], [], []⟩ (fun i => olook i law26_MarksRaw_L) Try.f4 [.sl (.int .i64), .sl (.int .u8), .sl (.int .u8), .sl (.int .u8)] [.v .bool] x = law26_MarksRaw_T x.1 x.2.1 x.2.2.1 x.2.2.2.1 := by kernel_rfl
theorem law26_MarksRaw_ok : FunOk Try.prog 4 law26_MarksRaw_fun := evFun_ok mixed ctx0 (cons_calls (fb := .plain law26_awake_fun) law26_awake_ok (fun h => by cases h) (cons_calls (fb := .plain law12_Levels_fun) law12_Levels_ok (fun h => by cases h) (cons_calls (fb := .plain law08_Classes_fun) law08_Classes_ok (fun h => by cases h) (cons_calls (fb := .plain law22_Widths_fun) law22_Widths_ok (fun h => by cases h) (cons_calls (fb := .plain marks_Fix_fun) marks_Fix_ok (fun h => by cases h) (cons_calls (fb := .old law26_want_fun) law26_want_ok (fun h => by cases h) (cons_calls (fb := .plain law25_Same_fun) law25_Same_ok (fun h => by cases h) (no_calls)))))))) Try.func4 (by kernel_rfl) _ (fun x => congrArg Tr.run (law26_MarksRaw_ev x)) (by kernel_rfl) (by kernel_rfl)
/-! ### boustrophedon/boustrophedonlaw26.MarksBase -/
noncomputable def law26_MarksBase_L11 (ns0 : List Int) (cs3 : List Int) (widths4 : List Int) (levels5 : List Int) (base6 : List Int) (k7 : Int) (at8 : Int) (i9 : Int) : Tr (Lap (List Int × List Int × List Int × List Int × List Int × Int × Int × Int) (List Int × List Int × List Int × List Int × List Int × Int)) :=
  .bnd (idx ns0 k7) fun x_6 =>
  .br (decide (i9 < (IntKind.i64.wrap (x_6.tmod 4)))) (
    .bnd (app 140737488355328 cs3 ([8])) fun r_7 =>
    .bnd (app 17592186044416 widths4 ([0])) fun r_8 =>
    .bnd (app 17592186044416 levels5 ([1])) fun r_9 =>
    .bnd (app 17592186044416 base6 ([at8])) fun r_10 =>
    .pure (.next (ns0, r_7, r_8, r_9, r_10, k7, at8, IntKind.i64.wrap (i9 + 1)))) (
    .pure (.done (ns0, cs3, widths4, levels5, base6, k7)))
noncomputable def law26_MarksBase_L6 (ns0 : List Int) (cs3 : List Int) (widths4 : List Int) (levels5 : List Int) (base6 : List Int) (k7 : Int) : Tr (Lap (List Int × List Int × List Int × List Int × List Int × Int) (List Int × List Int × List Int × List Int)) :=
  .br (decide (k7 < (ns0.length : Int))) (
    .br (decide (k7 < 30)) (
      .bnd (app 140737488355328 cs3 ([1])) fun r_2 =>
      .bnd (app 17592186044416 widths4 ([1])) fun r_3 =>
      .bnd (app 17592186044416 levels5 ([1])) fun r_4 =>
      .bnd (app 17592186044416 base6 ([(cs3.length : Int)])) fun r_5 =>
      .bnd (loopW (fun s => (law26_MarksBase_L11 s.1 s.2.1 s.2.2.1 s.2.2.2.1 s.2.2.2.2.1 s.2.2.2.2.2.1 s.2.2.2.2.2.2.1 s.2.2.2.2.2.2.2).run) (ns0, r_2, r_3, r_4, r_5, k7, (cs3.length : Int), 0)) fun l_11 =>
      .pure (.next (l_11.1, l_11.2.1, l_11.2.2.1, l_11.2.2.2.1, l_11.2.2.2.2.1, IntKind.i64.wrap (l_11.2.2.2.2.2 + 1)))) (
      .pure (.done (cs3, widths4, levels5, base6)))) (
    .pure (.done (cs3, widths4, levels5, base6)))
noncomputable def law26_MarksBase_L16 (cs3 : List Int) (base6 : List Int) (out10 : List Int) (t70 : Int) (t71 : Int) : Tr (Lap (List Int × List Int × List Int × Int × Int) (Sum (List Int × List Int) Bool)) :=
  .br (decide (t71 < t70)) (
    .bnd (idx out10 t71) fun x_15 =>
    .bnd (idx cs3 x_15) fun x_16 =>
    .br (x_16 == 8) (
      .br (t71 == 0) (
        .pure (.done (.inr false))) (
        .bnd (idx out10 (IntKind.i64.wrap (t71 - 1))) fun x_17 =>
        .br (x_17 != (IntKind.i64.wrap (x_15 - 1))) (
          .pure (.done (.inr false))) (
          .bnd (idx out10 (IntKind.i64.wrap (t71 - 1))) fun x_18 =>
          .bnd (idx base6 x_18) fun x_19 =>
          .bnd (idx base6 x_15) fun x_20 =>
          .br (x_19 != x_20) (
            .pure (.done (.inr false))) (
            .pure (.next (cs3, base6, out10, t70, IntKind.i64.wrap (t71 + 1))))))) (
      .pure (.next (cs3, base6, out10, t70, IntKind.i64.wrap (t71 + 1))))) (
    .pure (.done (.inl (cs3, out10))))
noncomputable def law26_MarksBase_T (ns0 : List Int) : Tr Bool :=
  .bnd law26_awake_F fun c_1 =>
  .br (!c_1) (
    .pure false) (
    .bnd (loopW (fun s => (law26_MarksBase_L6 s.1 s.2.1 s.2.2.1 s.2.2.2.1 s.2.2.2.2.1 s.2.2.2.2.2).run) (ns0, [], [], [], [], 0)) fun l_12 =>
    .bnd (order_Visual_F l_12.2.2.1) fun c_13 =>
    .bnd (marks_Fix_F c_13 l_12.2.2.1 l_12.1 l_12.2.1) fun c_14 =>
    .alt (loopW (fun s => (law26_MarksBase_L16 s.1 s.2.1 s.2.2.1 s.2.2.2.1 s.2.2.2.2).run) (l_12.1, l_12.2.2.2, c_14, (c_14.length : Int), 0)) (fun l_21 =>
      .pure ((l_21.2.length : Int) == (l_21.1.length : Int))) (fun l_22 =>
      .pure l_22))
noncomputable def law26_MarksBase_F (ns0 : List Int) : Option Bool := (law26_MarksBase_T ns0).run
def law26_MarksBase_L : List (Nat × LoopAnn) := [(11, { head := [.sv 0 false (.sl (.int .u8)), .srow 3 1000003 35 true (.int .u8), .srow 4 1000004 3 true (.int .i64), .srow 5 1000005 3 true (.int .i64), .srow 6 1000006 3 true (.int .i64), .sv 7 true (.int .i64), .sv 8 true (.int .i64), .sv 9 true (.int .i64)], xid := 2, out := [.sv 0 false (.sl (.int .u8)), .srow 3 1000003 35 true (.int .u8), .srow 4 1000004 3 true (.int .i64), .srow 5 1000005 3 true (.int .i64), .srow 6 1000006 3 true (.int .i64), .sv 7 true (.int .i64)], hasRet := false, res := [] }), (6, { head := [.sv 0 false (.sl (.int .u8)), .srow 3 1000003 35 true (.int .u8), .srow 4 1000004 3 true (.int .i64), .srow 5 1000005 3 true (.int .i64), .srow 6 1000006 3 true (.int .i64), .sv 7 true (.int .i64)], xid := 0, out := [.srow 3 1000003 35 true (.int .u8), .srow 4 1000004 3 true (.int .i64), .srow 5 1000005 3 true (.int .i64), .srow 6 1000006 3 true (.int .i64)], hasRet := false, res := [] }), (16, { head := [.srow 3 1000003 35 true (.int .u8), .srow 6 1000006 3 true (.int .i64), .srow 10 1000010 3 true (.int .i64), .sref 69 10 1000010, .sv 70 true (.int .i64), .sv 71 true (.int .i64)], xid := 4, out := [.srow 3 1000003 35 true (.int .u8), .srow 10 1000010 3 true (.int .i64)], hasRet := true, res := [.sv 2 true .bool] })]
noncomputable def law26_MarksBase_C : List (Nat × Callee) := [(7, .plain law26_awake_fun), (11, .plain order_Visual_fun), (12, .plain marks_Fix_fun)]
noncomputable def law26_MarksBase_fun : Fun := ⟨[.sl (.int .u8)], [.v .bool], fun x => law26_MarksBase_F x.1⟩
theorem law26_MarksBase_ev (x : Tys.I [.sl (.int .u8)]) : evFun G0 (fun f => olook f law26_MarksBase_C) ⟨[], [], [], [], [], []⟩ (fun i => olook i law26_MarksBase_L) Try.f6 [.sl (.int .u8)] [.v .bool] x = law26_MarksBase_T x.1 := by kernel_rfl
theorem law26_MarksBase_ok : FunOk Try.prog 6 law26_MarksBase_fun := evFun_ok mixed ctx0 (cons_calls (fb := .plain law26_awake_fun) law26_awake_ok (fun h => by cases h) (cons_calls (fb := .plain order_Visual_fun) order_Visual_ok (fun h => by cases h) (cons_calls (fb := .plain marks_Fix_fun) marks_Fix_ok (fun h => by cases h) (no_calls)))) Try.func6 (by kernel_rfl) _ (fun x => congrArg Tr.run (law26_MarksBase_ev x)) (by kernel_rfl) (by kernel_rfl)
end Go.Proofs.Ytggnnjofbknjjaa
