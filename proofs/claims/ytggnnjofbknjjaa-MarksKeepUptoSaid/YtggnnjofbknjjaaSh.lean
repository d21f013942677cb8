/-
  The plain readings of the functions of this seat, by program; each is tied to the loaded function.
-/
import Derived.Test.YtggnnjofbknjjaaEvErr
import Derived.Test.YtggnnjofbknjjaaChecked
namespace Go.Proofs.Ytggnnjofbknjjaa
set_option maxRecDepth 100000
set_option linter.unusedVariables false

def G0 : Ctx := { ty := [(3, .int .i64), (4, .bool), (5, .int .u8), (22, .sl (.int .u8)), (24, .sl (.int .i64)), (26, .sl (.int .u8)), (35, .int .u8), (42, .int .u64), (45, .int .u32), (48, .int .u64)], sls := [(22, ⟨5, .int .u8, 140737488355328⟩), (24, ⟨3, .int .i64, 17592186044416⟩), (26, ⟨35, .int .u8, 140737488355328⟩)], eqs := [], enos := [] }
theorem mixed : Try.prog.follows .mixedOrders = true := by kernel_rfl
theorem ctx0 : CtxOk Try.prog G0 := ctx_ok (by kernel_rfl)
theorem no_calls {Λ : List Nat} : ∀ f fa, olook f ([] : List (Nat × Callee)) = some fa → CalleeOk Try.prog f fa ∧ (fa.isPlain = false → inList f Λ = true) := fun _ _ h => by cases h
theorem cons_calls {Λ : List Nat} {k : Nat} {fb : Callee} {l : List (Nat × Callee)} (h : CalleeOk Try.prog k fb) (hi : fb.isPlain = false → inList k Λ = true) (hl : ∀ f fa, olook f l = some fa → CalleeOk Try.prog f fa ∧ (fa.isPlain = false → inList f Λ = true)) : ∀ f fa, olook f ((k, fb) :: l) = some fa → CalleeOk Try.prog f fa ∧ (fa.isPlain = false → inList f Λ = true) := by
  intro f fa hf
  rw [olook_cons] at hf
  split at hf
  · rename_i e; subst e; cases hf; exact ⟨h, hi⟩
  · exact hl f fa hf

theorem pc {Λ : List Nat} {k : Nat} {fa : Fun} {l : List (Nat × Callee)} (h : FunOk Try.prog k fa) (hl : ∀ f fa, olook f l = some fa → CalleeOk Try.prog f fa ∧ (fa.isPlain = false → inList f Λ = true)) : ∀ f fb, olook f ((k, .plain fa) :: l) = some fb → CalleeOk Try.prog f fb ∧ (fb.isPlain = false → inList f Λ = true) := cons_calls (fb := .plain fa) h (fun h => by cases h) hl
/-! ### slices.Clone[[]int,int] -/
noncomputable def slices_Clone___int_int__T (s0 : List Int) : Tr (List Int) :=
  .bnd (app 17592186044416 ([]) s0) fun r_1 =>
  .pure r_1
noncomputable def slices_Clone___int_int__F (s0 : List Int) : Option (List Int) := (slices_Clone___int_int__T s0).run
def slices_Clone___int_int__L : List (Nat × LoopAnn) := []
noncomputable def slices_Clone___int_int__C : List (Nat × Callee) := []
noncomputable def slices_Clone___int_int__fun : Fun := ⟨[.sl (.int .i64)], [.row 3 (.int .i64)], fun x => slices_Clone___int_int__F x.1⟩
noncomputable def slices_Clone___int_int__T0 : Tr (List Int) :=
  .pure ([])
theorem slices_Clone___int_int__ev0 : evFunS G0 (fun f => olook f slices_Clone___int_int__C) ⟨[], [], [], [], [], []⟩ (fun i => olook i slices_Clone___int_int__L) Try.f17 [.nil] [.row 3 (.int .i64)] = slices_Clone___int_int__T0 := by kernel_rfl
theorem slices_Clone___int_int__ev1 (s0 : List Int) : evFunS G0 (fun f => olook f slices_Clone___int_int__C) ⟨[], [], [], [], [], []⟩ (fun i => olook i slices_Clone___int_int__L) Try.f17 [.nn false (.int .i64) s0] [.row 3 (.int .i64)] = slices_Clone___int_int__T s0 := by kernel_rfl
theorem slices_Clone___int_int__nil (r : List Int) (h : slices_Clone___int_int__F [] = some r) : slices_Clone___int_int__T0.run = some r := by
  simp [slices_Clone___int_int__F, slices_Clone___int_int__T, slices_Clone___int_int__T0, app, mk, Tr.run] at h ⊢
  exact h
theorem slices_Clone___int_int__ok : FunOk Try.prog 17 slices_Clone___int_int__fun := evFunN_ok (A := ⟨[], [], [], [], [], []⟩) (L := fun i => olook i slices_Clone___int_int__L) mixed ctx0 (no_calls) Try.func17 (by kernel_rfl) _ (fun r h => (congrArg Tr.run slices_Clone___int_int__ev0).trans (slices_Clone___int_int__nil r h)) (fun s0 r h => (congrArg Tr.run (slices_Clone___int_int__ev1 s0)).trans h) (by kernel_rfl)
/-! ### boustrophedon/marks.Fix$1 -/
noncomputable def marks_Fix_1_T (i0 : Int) (t1 : List Int) (t2 : List Int) (t3 : List Int) : Tr Bool :=
  .bnd (idx t1 i0) fun x_1 =>
  .br (decide (x_1 > 0)) (
    .bnd (idx t1 i0) fun x_2 =>
    .br ((x_2.tmod 2) == 1) (
      .bnd (idx t2 i0) fun x_3 =>
      .br (x_3 == 8) (
        .bnd (idx t3 i0) fun x_4 =>
        .pure (x_4 == 0)) (
        .pure false)) (
      .pure false)) (
    .pure false)
noncomputable def marks_Fix_1_F (i0 : Int) (t1 : List Int) (t2 : List Int) (t3 : List Int) : Option Bool := (marks_Fix_1_T i0 t1 t2 t3).run
def marks_Fix_1_L : List (Nat × LoopAnn) := []
noncomputable def marks_Fix_1_C : List (Nat × Callee) := []
noncomputable def marks_Fix_1_fun : Fun := ⟨[.int .i64, .ptr (.sl (.int .i64)), .ptr (.sl (.int .u8)), .ptr (.sl (.int .i64))], [.v .bool], fun x => marks_Fix_1_F x.1 x.2.1 x.2.2.1 x.2.2.2.1⟩
theorem marks_Fix_1_ev (x : Tys.I [.int .i64, .ptr (.sl (.int .i64)), .ptr (.sl (.int .u8)), .ptr (.sl (.int .i64))]) : evFun G0 (fun f => olook f marks_Fix_1_C) ⟨[], [], [], [], [], []⟩ (fun i => olook i marks_Fix_1_L) Try.f18 [.int .i64, .ptr (.sl (.int .i64)), .ptr (.sl (.int .u8)), .ptr (.sl (.int .i64))] [.v .bool] x = marks_Fix_1_T x.1 x.2.1 x.2.2.1 x.2.2.2.1 := by kernel_rfl
theorem marks_Fix_1_ok : FunOk Try.prog 18 marks_Fix_1_fun := evFun_ok mixed ctx0 (no_calls) Try.func18 (by kernel_rfl) _ (fun x => congrArg Tr.run (marks_Fix_1_ev x)) (by kernel_rfl) (by kernel_rfl)
/-! ### slices.Reverse[[]int,int] -/
noncomputable def slices_Reverse___int_int__L1 (s0 : List Int) (i2 : Int) (j3 : Int) : Tr (Lap (List Int × Int × Int) (List Int)) :=
  .br (decide (i2 < j3)) (
    .bnd (idx s0 j3) fun _ =>
    .bnd (idx s0 j3) fun x_2 =>
    .bnd (idx s0 i2) fun _ =>
    .bnd (idx s0 i2) fun x_4 =>
    .bnd (idx s0 i2) fun _ =>
    .bnd (idx s0 i2) fun _ =>
    .bnd (idx (s0.set (Int.toNat i2) x_2) j3) fun _ =>
    .bnd (idx (s0.set (Int.toNat i2) x_2) j3) fun _ =>
    .pure (.next ((s0.set (Int.toNat i2) x_2).set (Int.toNat j3) x_4, IntKind.i64.wrap (i2 + 1), IntKind.i64.wrap (j3 - 1)))) (
    .pure (.done s0))
noncomputable def slices_Reverse___int_int__T (s0 : List Int) : Tr (List Int × Unit) :=
  .bnd (loopW (fun s => (slices_Reverse___int_int__L1 s.1 s.2.1 s.2.2).run) (s0, 0, IntKind.i64.wrap ((s0.length : Int) - 1))) fun l_7 =>
  .pure (l_7, ())
noncomputable def slices_Reverse___int_int__F (s0 : List Int) : Option (List Int × Unit) := (slices_Reverse___int_int__T s0).run
def slices_Reverse___int_int__L : List (Nat × LoopAnn) := [(1, { head := [.slrow 0 3 (.int .i64), .sv 2 true (.int .i64), .sv 3 true (.int .i64)], xid := 0, out := [.slrow 0 3 (.int .i64)], hasRet := false, res := [] })]
noncomputable def slices_Reverse___int_int__C : List (Nat × Callee) := []
noncomputable def slices_Reverse___int_int__fun : LFun := ⟨3, (.int .i64), [], [], fun s _ => slices_Reverse___int_int__F s⟩
theorem slices_Reverse___int_int__ev (s : List Int) (x : Tys.I []) : evFunL G0 (fun f => olook f slices_Reverse___int_int__C) ⟨[], [], [], [], [], []⟩ (fun i => olook i slices_Reverse___int_int__L) Try.f19 3 (.int .i64) [] [] s x = slices_Reverse___int_int__T s := by kernel_rfl
theorem slices_Reverse___int_int__ok : LentOk Try.prog 19 slices_Reverse___int_int__fun := evFunL_ok mixed ctx0 (no_calls) Try.func19 (by kernel_rfl) rfl _ (fun s x => congrArg Tr.run (slices_Reverse___int_int__ev s x)) (by kernel_rfl)
/-! ### boustrophedon/marks.Fix -/
noncomputable def marks_Fix_L4 (levels5 : List Int) (cs6 : List Int) (widths7 : List Int) (out9 : List Int) (n10 : Int) (t25 : List Int) (t26 : Int) (t27 : Int) : Tr (Lap (List Int × List Int × List Int × List Int × Int × List Int × Int × Int) (Sum (List Int × List Int × List Int × List Int) (List Int))) :=
  .br (decide (t27 < t26)) (
    .bnd (idx t25 t27) fun x_2 =>
    .br (decide (x_2 < 0)) (
      .pure (.done (.inr out9))) (
      .br (decide (x_2 ≥ n10)) (
        .pure (.done (.inr out9))) (
        .pure (.next (levels5, cs6, widths7, out9, n10, t25, t26, IntKind.i64.wrap (t27 + 1)))))) (
    .pure (.done (.inl (levels5, cs6, widths7, out9))))
noncomputable def marks_Fix_L13 (levels5 : List Int) (out9 : List Int) (mark13 : List Int × List Int × List Int) (from14 : Int) (to15 : Int) : Tr (Lap (List Int × List Int × (List Int × List Int × List Int) × Int × Int) (List Int × List Int × (List Int × List Int × List Int) × Int × Int)) :=
  .br (decide (to15 < (out9.length : Int))) (
    .bnd (idx out9 to15) fun x_4 =>
    .bnd (marks_Fix_1_F x_4 mark13.1 mark13.2.1 mark13.2.2) fun c_5 =>
    .br c_5 (
      .pure (.next (levels5, out9, mark13, from14, IntKind.i64.wrap (to15 + 1)))) (
      .pure (.done (levels5, out9, mark13, from14, to15)))) (
    .pure (.done (levels5, out9, mark13, from14, to15)))
noncomputable def marks_Fix_L11 (levels5 : List Int) (out9 : List Int) (mark13 : List Int × List Int × List Int) (from14 : Int) : Tr (Lap (List Int × List Int × (List Int × List Int × List Int) × Int) (List Int)) :=
  .br (decide (from14 < (out9.length : Int))) (
    .bnd (loopW (fun s => (marks_Fix_L13 s.1 s.2.1 s.2.2.1 s.2.2.2.1 s.2.2.2.2).run) (levels5, out9, mark13, from14, from14)) fun l_6 =>
    .br (decide (l_6.2.2.2.2 < (l_6.2.1.length : Int))) (
      .bnd (idx l_6.2.1 l_6.2.2.2.2) fun x_7 =>
      .bnd (idx l_6.1 x_7) fun x_8 =>
      .bnd (idx l_6.2.1 l_6.2.2.2.1) fun x_9 =>
      .bnd (idx l_6.1 x_9) fun x_10 =>
      .br (x_8 == x_10) (
        .bnd (cut l_6.2.1 l_6.2.2.2.1 (IntKind.i64.wrap (l_6.2.2.2.2 + 1))) fun r_11 =>
        .bnd (slices_Reverse___int_int__F ((l_6.2.1.drop ((l_6.2.2.2.1).toNat)).take r_11.length)) fun c_12 =>
        .pure (.next (l_6.1, splice' l_6.2.1 ((l_6.2.2.2.1).toNat) r_11.length c_12.1, l_6.2.2.1, IntKind.i64.wrap (l_6.2.2.2.2 + 1)))) (
        .pure (.next (l_6.1, l_6.2.1, l_6.2.2.1, IntKind.i64.wrap (l_6.2.2.2.2 + 1))))) (
      .pure (.next (l_6.1, l_6.2.1, l_6.2.2.1, IntKind.i64.wrap (l_6.2.2.2.2 + 1))))) (
    .pure (.done out9))
noncomputable def marks_Fix_T (visual0 : List Int) (levels1 : List Int) (cs2 : List Int) (widths3 : List Int) : Tr (List Int) :=
  .bnd (slices_Clone___int_int__F visual0) fun c_1 =>
  .alt (loopW (fun s => (marks_Fix_L4 s.1 s.2.1 s.2.2.1 s.2.2.2.1 s.2.2.2.2.1 s.2.2.2.2.2.1 s.2.2.2.2.2.2.1 s.2.2.2.2.2.2.2).run) (levels1, cs2, widths3, c_1, if (widths3.length : Int) < (if (cs2.length : Int) < (levels1.length : Int) then (cs2.length : Int) else (levels1.length : Int)) then (widths3.length : Int) else (if (cs2.length : Int) < (levels1.length : Int) then (cs2.length : Int) else (levels1.length : Int)), visual0, (visual0.length : Int), 0)) (fun l_3 =>
    .bnd (loopW (fun s => (marks_Fix_L11 s.1 s.2.1 s.2.2.1 s.2.2.2).run) (l_3.1, l_3.2.2.2, (l_3.1, l_3.2.1, l_3.2.2.1), 0)) fun l_13 =>
    .pure l_13) (fun l_14 =>
    .pure l_14)
noncomputable def marks_Fix_F (visual0 : List Int) (levels1 : List Int) (cs2 : List Int) (widths3 : List Int) : Option (List Int) := (marks_Fix_T visual0 levels1 cs2 widths3).run
def marks_Fix_L : List (Nat × LoopAnn) := [(4, { head := [.sbox 5 1000005 24 false (.sl (.int .i64)), .sbox 6 1000006 26 false (.sl (.int .u8)), .sbox 7 1000007 24 false (.sl (.int .i64)), .srow 9 1000009 3 true (.int .i64), .sv 10 true (.int .i64), .sv 25 false (.sl (.int .i64)), .sv 26 true (.int .i64), .sv 27 true (.int .i64)], xid := 0, out := [.sbox 5 1000005 24 false (.sl (.int .i64)), .sbox 6 1000006 26 false (.sl (.int .u8)), .sbox 7 1000007 24 false (.sl (.int .i64)), .srow 9 1000009 3 true (.int .i64)], hasRet := true, res := [.srow 8 1000008 3 true (.int .i64)] }), (13, { head := [.sv 5 false (.ptr (.sl (.int .i64))), .srow 9 1000009 3 true (.int .i64), .sv 13 false (.fn 18 (.pair (.ptr (.sl (.int .i64))) (.pair (.ptr (.sl (.int .u8))) (.ptr (.sl (.int .i64)))))), .sv 14 true (.int .i64), .sv 15 true (.int .i64)], xid := 4, out := [.sv 5 false (.ptr (.sl (.int .i64))), .srow 9 1000009 3 true (.int .i64), .sv 13 false (.fn 18 (.pair (.ptr (.sl (.int .i64))) (.pair (.ptr (.sl (.int .u8))) (.ptr (.sl (.int .i64)))))), .sv 14 true (.int .i64), .sv 15 true (.int .i64)], hasRet := false, res := [] }), (11, { head := [.sv 5 false (.ptr (.sl (.int .i64))), .srow 9 1000009 3 true (.int .i64), .sv 13 false (.fn 18 (.pair (.ptr (.sl (.int .i64))) (.pair (.ptr (.sl (.int .u8))) (.ptr (.sl (.int .i64)))))), .sv 14 true (.int .i64)], xid := 2, out := [.srow 9 1000009 3 true (.int .i64)], hasRet := false, res := [] })]
noncomputable def marks_Fix_C : List (Nat × Callee) := [(17, .plain slices_Clone___int_int__fun), (18, .plain marks_Fix_1_fun), (19, .lent slices_Reverse___int_int__fun)]
noncomputable def marks_Fix_fun : Fun := ⟨[.sl (.int .i64), .sl (.int .i64), .sl (.int .u8), .sl (.int .i64)], [.row 3 (.int .i64)], fun x => marks_Fix_F x.1 x.2.1 x.2.2.1 x.2.2.2.1⟩
theorem marks_Fix_ev (x : Tys.I [.sl (.int .i64), .sl (.int .i64), .sl (.int .u8), .sl (.int .i64)]) : evFun G0 (fun f => olook f marks_Fix_C) ⟨[], [], [19], [], [], []⟩ (fun i => olook i marks_Fix_L) Try.f12 [.sl (.int .i64), .sl (.int .i64), .sl (.int .u8), .sl (.int .i64)] [.row 3 (.int .i64)] x = marks_Fix_T x.1 x.2.1 x.2.2.1 x.2.2.2.1 := by kernel_rfl
theorem marks_Fix_ok : FunOk Try.prog 12 marks_Fix_fun := evFun_ok mixed ctx0 (pc slices_Clone___int_int__ok (pc marks_Fix_1_ok (cons_calls (fb := .lent slices_Reverse___int_int__fun) slices_Reverse___int_int__ok (fun h => by rfl) (no_calls)))) Try.func12 (by kernel_rfl) _ (fun x => congrArg Tr.run (marks_Fix_ev x)) (by kernel_rfl) (by kernel_rfl)
/-! ### boustrophedon/boustrophedonlaw25.Same -/
noncomputable def law25_Same_L4 (a0 : List Int) (b1 : List Int) (k5 : Int) : Tr (Lap (List Int × List Int × Int) (Sum Unit Bool)) :=
  .br (decide (k5 < (a0.length : Int))) (
    .bnd (idx a0 k5) fun x_1 =>
    .bnd (idx b1 k5) fun x_2 =>
    .br (x_1 != x_2) (
      .pure (.done (.inr false))) (
      .pure (.next (a0, b1, IntKind.i64.wrap (k5 + 1))))) (
    .pure (.done (.inl ())))
noncomputable def law25_Same_T (a0 : List Int) (b1 : List Int) : Tr Bool :=
  .br ((a0.length : Int) != (b1.length : Int)) (
    .pure false) (
    .alt (loopW (fun s => (law25_Same_L4 s.1 s.2.1 s.2.2).run) (a0, b1, 0)) (fun l_3 =>
      .pure true) (fun l_4 =>
      .pure l_4))
noncomputable def law25_Same_F (a0 : List Int) (b1 : List Int) : Option Bool := (law25_Same_T a0 b1).run
def law25_Same_L : List (Nat × LoopAnn) := [(4, { head := [.sv 0 false (.sl (.int .i64)), .sv 1 false (.sl (.int .i64)), .sv 5 true (.int .i64)], xid := 0, out := [], hasRet := true, res := [.sv 4 true .bool] })]
noncomputable def law25_Same_C : List (Nat × Callee) := []
noncomputable def law25_Same_fun : Fun := ⟨[.sl (.int .i64), .sl (.int .i64)], [.v .bool], fun x => law25_Same_F x.1 x.2.1⟩
theorem law25_Same_ev (x : Tys.I [.sl (.int .i64), .sl (.int .i64)]) : evFun G0 (fun f => olook f law25_Same_C) ⟨[], [], [], [], [], []⟩ (fun i => olook i law25_Same_L) Try.f13 [.sl (.int .i64), .sl (.int .i64)] [.v .bool] x = law25_Same_T x.1 x.2.1 := by kernel_rfl
theorem law25_Same_ok : FunOk Try.prog 13 law25_Same_fun := evFun_ok mixed ctx0 (no_calls) Try.func13 (by kernel_rfl) _ (fun x => congrArg Tr.run (law25_Same_ev x)) (by kernel_rfl) (by kernel_rfl)
/-! ### boustrophedon/boustrophedonlaw26.awake -/
noncomputable def law26_awake_T : Tr Bool :=
  .bnd (marks_Fix_F ([2, 1, 0]) ([1, 1, 1]) ([1, 8, 8]) ([1, 0, 0])) fun c_1 =>
  .bnd (law25_Same_F c_1 ([0, 1, 2])) fun c_2 =>
  .br c_2 (
    .bnd (marks_Fix_F ([2, 1, 0]) ([2, 2, 2]) ([1, 8, 8]) ([1, 0, 0])) fun c_3 =>
    .bnd (law25_Same_F c_3 ([2, 1, 0])) fun c_4 =>
    .pure c_4) (
    .pure false)
noncomputable def law26_awake_F : Option Bool := (law26_awake_T).run
def law26_awake_L : List (Nat × LoopAnn) := []
noncomputable def law26_awake_C : List (Nat × Callee) := [(12, .plain marks_Fix_fun), (13, .plain law25_Same_fun)]
noncomputable def law26_awake_fun : Fun := ⟨[], [.v .bool], fun _ => law26_awake_F⟩
theorem law26_awake_ev (x : Tys.I []) : evFun G0 (fun f => olook f law26_awake_C) ⟨[], [], [], [], [], []⟩ (fun i => olook i law26_awake_L) Try.f7 [] [.v .bool] x = law26_awake_T := by kernel_rfl
theorem law26_awake_ok : FunOk Try.prog 7 law26_awake_fun := evFun_ok mixed ctx0 (pc marks_Fix_ok (pc law25_Same_ok (no_calls))) Try.func7 (by kernel_rfl) _ (fun x => congrArg Tr.run (law26_awake_ev x)) (by kernel_rfl) (by kernel_rfl)
/-! ### boustrophedon/boustrophedonlaw12.Levels -/
noncomputable def law12_Levels_L3 (ns0 : List Int) (out3 : List Int) (k4 : Int) : Tr (Lap (List Int × List Int × Int) (List Int)) :=
  .br (decide (k4 < (ns0.length : Int))) (
    .bnd (idx ns0 k4) fun x_1 =>
    .br ((x_1.tmod 8) == 7) (
      .bnd (app 17592186044416 out3 ([(-1)])) fun r_2 =>
      .pure (.next (ns0, r_2, IntKind.i64.wrap (k4 + 1)))) (
      .bnd (idx ns0 k4) fun x_3 =>
      .bnd (app 17592186044416 out3 ([(IntKind.i64.wrap (IntKind.u8.wrap (x_3.tdiv 8))).tmod 6])) fun r_4 =>
      .pure (.next (ns0, r_4, IntKind.i64.wrap (k4 + 1))))) (
    .pure (.done out3))
noncomputable def law12_Levels_T (ns0 : List Int) : Tr (List Int) :=
  .bnd (loopW (fun s => (law12_Levels_L3 s.1 s.2.1 s.2.2).run) (ns0, [], 0)) fun l_5 =>
  .pure l_5
noncomputable def law12_Levels_F (ns0 : List Int) : Option (List Int) := (law12_Levels_T ns0).run
def law12_Levels_L : List (Nat × LoopAnn) := [(3, { head := [.sv 0 false (.sl (.int .u8)), .srow 3 1000003 3 true (.int .i64), .sv 4 true (.int .i64)], xid := 0, out := [.srow 3 1000003 3 true (.int .i64)], hasRet := false, res := [] })]
noncomputable def law12_Levels_C : List (Nat × Callee) := []
noncomputable def law12_Levels_fun : Fun := ⟨[.sl (.int .u8)], [.row 3 (.int .i64)], fun x => law12_Levels_F x.1⟩
theorem law12_Levels_ev (x : Tys.I [.sl (.int .u8)]) : evFun G0 (fun f => olook f law12_Levels_C) ⟨[], [], [], [], [], []⟩ (fun i => olook i law12_Levels_L) Try.f8 [.sl (.int .u8)] [.row 3 (.int .i64)] x = law12_Levels_T x.1 := by kernel_rfl
theorem law12_Levels_ok : FunOk Try.prog 8 law12_Levels_fun := evFun_ok mixed ctx0 (no_calls) Try.func8 (by kernel_rfl) _ (fun x => congrArg Tr.run (law12_Levels_ev x)) (by kernel_rfl) (by kernel_rfl)
/-! ### boustrophedon/boustrophedonlaw08.Classes -/
noncomputable def law08_Classes_L3 (ns0 : List Int) (out3 : List Int) (k4 : Int) : Tr (Lap (List Int × List Int × Int) (List Int)) :=
  .br (decide (k4 < (ns0.length : Int))) (
    .bnd (idx ns0 k4) fun x_1 =>
    .bnd (app 140737488355328 out3 ([x_1.tmod 23])) fun r_2 =>
    .pure (.next (ns0, r_2, IntKind.i64.wrap (k4 + 1)))) (
    .pure (.done out3))
noncomputable def law08_Classes_T (ns0 : List Int) : Tr (List Int) :=
  .bnd (loopW (fun s => (law08_Classes_L3 s.1 s.2.1 s.2.2).run) (ns0, [], 0)) fun l_3 =>
  .pure l_3
noncomputable def law08_Classes_F (ns0 : List Int) : Option (List Int) := (law08_Classes_T ns0).run
def law08_Classes_L : List (Nat × LoopAnn) := [(3, { head := [.sv 0 false (.sl (.int .u8)), .srow 3 1000003 35 true (.int .u8), .sv 4 true (.int .i64)], xid := 0, out := [.srow 3 1000003 35 true (.int .u8)], hasRet := false, res := [] })]
noncomputable def law08_Classes_C : List (Nat × Callee) := []
noncomputable def law08_Classes_fun : Fun := ⟨[.sl (.int .u8)], [.row 35 (.int .u8)], fun x => law08_Classes_F x.1⟩
theorem law08_Classes_ev (x : Tys.I [.sl (.int .u8)]) : evFun G0 (fun f => olook f law08_Classes_C) ⟨[], [], [], [], [], []⟩ (fun i => olook i law08_Classes_L) Try.f9 [.sl (.int .u8)] [.row 35 (.int .u8)] x = law08_Classes_T x.1 := by kernel_rfl
theorem law08_Classes_ok : FunOk Try.prog 9 law08_Classes_fun := evFun_ok mixed ctx0 (no_calls) Try.func9 (by kernel_rfl) _ (fun x => congrArg Tr.run (law08_Classes_ev x)) (by kernel_rfl) (by kernel_rfl)
/-! ### boustrophedon/boustrophedonlaw22.Widths -/
noncomputable def law22_Widths_L3 (ns0 : List Int) (out3 : List Int) (k4 : Int) : Tr (Lap (List Int × List Int × Int) (List Int)) :=
  .br (decide (k4 < (ns0.length : Int))) (
    .bnd (idx ns0 k4) fun x_1 =>
    .bnd (app 17592186044416 out3 ([IntKind.i64.wrap (x_1.tmod 3)])) fun r_2 =>
    .pure (.next (ns0, r_2, IntKind.i64.wrap (k4 + 1)))) (
    .pure (.done out3))
noncomputable def law22_Widths_T (ns0 : List Int) : Tr (List Int) :=
  .bnd (loopW (fun s => (law22_Widths_L3 s.1 s.2.1 s.2.2).run) (ns0, [], 0)) fun l_3 =>
  .pure l_3
noncomputable def law22_Widths_F (ns0 : List Int) : Option (List Int) := (law22_Widths_T ns0).run
def law22_Widths_L : List (Nat × LoopAnn) := [(3, { head := [.sv 0 false (.sl (.int .u8)), .srow 3 1000003 3 true (.int .i64), .sv 4 true (.int .i64)], xid := 0, out := [.srow 3 1000003 3 true (.int .i64)], hasRet := false, res := [] })]
noncomputable def law22_Widths_C : List (Nat × Callee) := []
noncomputable def law22_Widths_fun : Fun := ⟨[.sl (.int .u8)], [.row 3 (.int .i64)], fun x => law22_Widths_F x.1⟩
theorem law22_Widths_ev (x : Tys.I [.sl (.int .u8)]) : evFun G0 (fun f => olook f law22_Widths_C) ⟨[], [], [], [], [], []⟩ (fun i => olook i law22_Widths_L) Try.f10 [.sl (.int .u8)] [.row 3 (.int .i64)] x = law22_Widths_T x.1 := by kernel_rfl
theorem law22_Widths_ok : FunOk Try.prog 10 law22_Widths_fun := evFun_ok mixed ctx0 (no_calls) Try.func10 (by kernel_rfl) _ (fun x => congrArg Tr.run (law22_Widths_ev x)) (by kernel_rfl) (by kernel_rfl)
/-! ### boustrophedon/order.reverse -/
noncomputable def order_reverse_L3 (visual0 : List Int) (levels1 : List Int) (level2 : Int) (from6 : Int) (to7 : Int) : Tr (Lap (List Int × List Int × Int × Int × Int) (List Int × List Int × Int × Int × Int)) :=
  .br (decide (to7 < (visual0.length : Int))) (
    .bnd (idx visual0 to7) fun _ =>
    .bnd (idx visual0 to7) fun x_2 =>
    .bnd (idx levels1 x_2) fun x_3 =>
    .br (decide (x_3 ≥ level2)) (
      .pure (.next (visual0, levels1, level2, from6, IntKind.i64.wrap (to7 + 1)))) (
      .pure (.done (visual0, levels1, level2, from6, to7)))) (
    .pure (.done (visual0, levels1, level2, from6, to7)))
noncomputable def order_reverse_L1 (visual0 : List Int) (levels1 : List Int) (level2 : Int) (from6 : Int) : Tr (Lap (List Int × List Int × Int × Int) (List Int)) :=
  .br (decide (from6 < (visual0.length : Int))) (
    .bnd (loopW (fun s => (order_reverse_L3 s.1 s.2.1 s.2.2.1 s.2.2.2.1 s.2.2.2.2).run) (visual0, levels1, level2, from6, from6)) fun l_4 =>
    .bnd (cut l_4.1 l_4.2.2.2.1 l_4.2.2.2.2) fun r_5 =>
    .bnd (slices_Reverse___int_int__F ((l_4.1.drop ((l_4.2.2.2.1).toNat)).take r_5.length)) fun c_6 =>
    .pure (.next (splice' l_4.1 ((l_4.2.2.2.1).toNat) r_5.length c_6.1, l_4.2.1, l_4.2.2.1, IntKind.i64.wrap (l_4.2.2.2.2 + 1)))) (
    .pure (.done visual0))
noncomputable def order_reverse_T (visual0 : List Int) (levels1 : List Int) (level2 : Int) : Tr (List Int × Unit) :=
  .bnd (loopW (fun s => (order_reverse_L1 s.1 s.2.1 s.2.2.1 s.2.2.2).run) (visual0, levels1, level2, 0)) fun l_7 =>
  .pure (l_7, ())
noncomputable def order_reverse_F (visual0 : List Int) (levels1 : List Int) (level2 : Int) : Option (List Int × Unit) := (order_reverse_T visual0 levels1 level2).run
def order_reverse_L : List (Nat × LoopAnn) := [(3, { head := [.slrow 0 3 (.int .i64), .sv 1 false (.sl (.int .i64)), .sv 2 false (.int .i64), .sv 6 true (.int .i64), .sv 7 true (.int .i64)], xid := 2, out := [.slrow 0 3 (.int .i64), .sv 1 false (.sl (.int .i64)), .sv 2 false (.int .i64), .sv 6 true (.int .i64), .sv 7 true (.int .i64)], hasRet := false, res := [] }), (1, { head := [.slrow 0 3 (.int .i64), .sv 1 false (.sl (.int .i64)), .sv 2 false (.int .i64), .sv 6 true (.int .i64)], xid := 0, out := [.slrow 0 3 (.int .i64)], hasRet := false, res := [] })]
noncomputable def order_reverse_C : List (Nat × Callee) := [(19, .lent slices_Reverse___int_int__fun)]
noncomputable def order_reverse_fun : LFun := ⟨3, (.int .i64), [.sl (.int .i64), .int .i64], [], fun s x => order_reverse_F s x.1 x.2.1⟩
theorem order_reverse_ev (s : List Int) (x : Tys.I [.sl (.int .i64), .int .i64]) : evFunL G0 (fun f => olook f order_reverse_C) ⟨[], [], [19], [], [], []⟩ (fun i => olook i order_reverse_L) Try.f16 3 (.int .i64) [.sl (.int .i64), .int .i64] [] s x = order_reverse_T s x.1 x.2.1 := by kernel_rfl
theorem order_reverse_ok : LentOk Try.prog 16 order_reverse_fun := evFunL_ok mixed ctx0 (cons_calls (fb := .lent slices_Reverse___int_int__fun) slices_Reverse___int_int__ok (fun h => by rfl) (no_calls)) Try.func16 (by kernel_rfl) rfl _ (fun s x => congrArg Tr.run (order_reverse_ev s x)) (by kernel_rfl)
/-! ### boustrophedon/order.Visual -/
noncomputable def order_Visual_L4 (levels0 : List Int) (visual3 : List Int) (top4 : Int) (t8 : List Int) (t9 : Int) (t10 : Int) : Tr (Lap (List Int × List Int × Int × List Int × Int × Int) (List Int × List Int × Int)) :=
  .br (decide (t10 < t9)) (
    .bnd (idx t8 t10) fun x_1 =>
    .br (x_1 != (-1)) (
      .bnd (app 17592186044416 visual3 ([t10])) fun r_2 =>
      .pure (.next (levels0, r_2, if (if 126 < x_1 then 126 else x_1) > top4 then (if 126 < x_1 then 126 else x_1) else top4, t8, t9, IntKind.i64.wrap (t10 + 1)))) (
      .pure (.next (levels0, visual3, top4, t8, t9, IntKind.i64.wrap (t10 + 1))))) (
    .pure (.done (levels0, visual3, top4)))
noncomputable def order_Visual_L11 (levels0 : List Int) (visual3 : List Int) (level7 : Int) : Tr (Lap (List Int × List Int × Int) (List Int)) :=
  .br (decide (level7 > 0)) (
    .bnd (order_reverse_F visual3 levels0 level7) fun c_4 =>
    .pure (.next (levels0, c_4.1, IntKind.i64.wrap (level7 - 1)))) (
    .pure (.done visual3))
noncomputable def order_Visual_T (levels0 : List Int) : Tr (List Int) :=
  .bnd (loopW (fun s => (order_Visual_L4 s.1 s.2.1 s.2.2.1 s.2.2.2.1 s.2.2.2.2.1 s.2.2.2.2.2).run) (levels0, [], 0, levels0, (levels0.length : Int), 0)) fun l_3 =>
  .bnd (loopW (fun s => (order_Visual_L11 s.1 s.2.1 s.2.2).run) (l_3.1, l_3.2.1, l_3.2.2)) fun l_5 =>
  .pure l_5
noncomputable def order_Visual_F (levels0 : List Int) : Option (List Int) := (order_Visual_T levels0).run
def order_Visual_L : List (Nat × LoopAnn) := [(4, { head := [.sv 0 false (.sl (.int .i64)), .srow 3 1000003 3 true (.int .i64), .sv 4 true (.int .i64), .sv 8 false (.sl (.int .i64)), .sv 9 true (.int .i64), .sv 10 true (.int .i64)], xid := 0, out := [.sv 0 false (.sl (.int .i64)), .srow 3 1000003 3 true (.int .i64), .sv 4 true (.int .i64)], hasRet := false, res := [] }), (11, { head := [.sv 0 false (.sl (.int .i64)), .srow 3 1000003 3 true (.int .i64), .sv 7 true (.int .i64)], xid := 2, out := [.srow 3 1000003 3 true (.int .i64)], hasRet := false, res := [] })]
noncomputable def order_Visual_C : List (Nat × Callee) := [(16, .lent order_reverse_fun)]
noncomputable def order_Visual_fun : Fun := ⟨[.sl (.int .i64)], [.row 3 (.int .i64)], fun x => order_Visual_F x.1⟩
theorem order_Visual_ev (x : Tys.I [.sl (.int .i64)]) : evFun G0 (fun f => olook f order_Visual_C) ⟨[], [], [16], [], [], []⟩ (fun i => olook i order_Visual_L) Try.f11 [.sl (.int .i64)] [.row 3 (.int .i64)] x = order_Visual_T x.1 := by kernel_rfl
theorem order_Visual_ok : FunOk Try.prog 11 order_Visual_fun := evFun_ok mixed ctx0 (cons_calls (fb := .lent order_reverse_fun) order_reverse_ok (fun h => by rfl) (no_calls)) Try.func11 (by kernel_rfl) _ (fun x => congrArg Tr.run (order_Visual_ev x)) (by kernel_rfl) (by kernel_rfl)
/-! ### math/bits.Mul32 -/
noncomputable def bits_Mul32_T (x0 : Int) (y1 : Int) : Tr (Int × Int) :=
  .pure (IntKind.u32.wrap (shiftBy .shr .u64 (IntKind.u64.wrap ((IntKind.u64.wrap x0) * (IntKind.u64.wrap y1))) 32), IntKind.u32.wrap (IntKind.u64.wrap ((IntKind.u64.wrap x0) * (IntKind.u64.wrap y1))))
noncomputable def bits_Mul32_F (x0 : Int) (y1 : Int) : Option (Int × Int) := (bits_Mul32_T x0 y1).run
def bits_Mul32_L : List (Nat × LoopAnn) := []
noncomputable def bits_Mul32_C : List (Nat × Callee) := []
noncomputable def bits_Mul32_fun : Fun := ⟨[.int .u32, .int .u32], [.v (.int .u32), .v (.int .u32)], fun x => bits_Mul32_F x.1 x.2.1⟩
theorem bits_Mul32_ev (x : Tys.I [.int .u32, .int .u32]) : evFun G0 (fun f => olook f bits_Mul32_C) ⟨[], [], [], [], [], []⟩ (fun i => olook i bits_Mul32_L) Try.f23 [.int .u32, .int .u32] [.v (.int .u32), .v (.int .u32)] x = bits_Mul32_T x.1 x.2.1 := by kernel_rfl
theorem bits_Mul32_ok : FunOk Try.prog 23 bits_Mul32_fun := evFun_ok mixed ctx0 (no_calls) Try.func23 (by kernel_rfl) _ (fun x => congrArg Tr.run (bits_Mul32_ev x)) (by kernel_rfl) (by kernel_rfl)
/-! ### math/bits.Mul64 -/
noncomputable def bits_Mul64_T (x0 : Int) (y1 : Int) : Tr (Int × Int) :=
  .pure (IntKind.u64.wrap ((IntKind.u64.wrap ((IntKind.u64.wrap ((shiftBy .shr .u64 x0 32) * (shiftBy .shr .u64 y1 32))) + (shiftBy .shr .u64 (IntKind.u64.wrap ((IntKind.u64.wrap ((shiftBy .shr .u64 x0 32) * (ibits .and .u64 y1 4294967295))) + (shiftBy .shr .u64 (IntKind.u64.wrap ((ibits .and .u64 x0 4294967295) * (ibits .and .u64 y1 4294967295))) 32))) 32))) + (shiftBy .shr .u64 (IntKind.u64.wrap ((ibits .and .u64 (IntKind.u64.wrap ((IntKind.u64.wrap ((shiftBy .shr .u64 x0 32) * (ibits .and .u64 y1 4294967295))) + (shiftBy .shr .u64 (IntKind.u64.wrap ((ibits .and .u64 x0 4294967295) * (ibits .and .u64 y1 4294967295))) 32))) 4294967295) + (IntKind.u64.wrap ((ibits .and .u64 x0 4294967295) * (shiftBy .shr .u64 y1 32))))) 32)), IntKind.u64.wrap (x0 * y1))
noncomputable def bits_Mul64_F (x0 : Int) (y1 : Int) : Option (Int × Int) := (bits_Mul64_T x0 y1).run
def bits_Mul64_L : List (Nat × LoopAnn) := []
noncomputable def bits_Mul64_C : List (Nat × Callee) := []
noncomputable def bits_Mul64_fun : Fun := ⟨[.int .u64, .int .u64], [.v (.int .u64), .v (.int .u64)], fun x => bits_Mul64_F x.1 x.2.1⟩
theorem bits_Mul64_ev (x : Tys.I [.int .u64, .int .u64]) : evFun G0 (fun f => olook f bits_Mul64_C) ⟨[], [], [], [], [], []⟩ (fun i => olook i bits_Mul64_L) Try.f24 [.int .u64, .int .u64] [.v (.int .u64), .v (.int .u64)] x = bits_Mul64_T x.1 x.2.1 := by kernel_rfl
theorem bits_Mul64_ok : FunOk Try.prog 24 bits_Mul64_fun := evFun_ok mixed ctx0 (no_calls) Try.func24 (by kernel_rfl) _ (fun x => congrArg Tr.run (bits_Mul64_ev x)) (by kernel_rfl) (by kernel_rfl)
/-! ### math/bits.Mul -/
noncomputable def bits_Mul_T (x0 : Int) (y1 : Int) : Tr (Int × Int) :=
  .bnd (bits_Mul64_F x0 y1) fun c_1 =>
  .pure (c_1.1, c_1.2)
noncomputable def bits_Mul_F (x0 : Int) (y1 : Int) : Option (Int × Int) := (bits_Mul_T x0 y1).run
def bits_Mul_L : List (Nat × LoopAnn) := []
noncomputable def bits_Mul_C : List (Nat × Callee) := [(24, .plain bits_Mul64_fun)]
noncomputable def bits_Mul_fun : Fun := ⟨[.int .u64, .int .u64], [.v (.int .u64), .v (.int .u64)], fun x => bits_Mul_F x.1 x.2.1⟩
theorem bits_Mul_ev (x : Tys.I [.int .u64, .int .u64]) : evFun G0 (fun f => olook f bits_Mul_C) ⟨[], [], [], [], [], []⟩ (fun i => olook i bits_Mul_L) Try.f22 [.int .u64, .int .u64] [.v (.int .u64), .v (.int .u64)] x = bits_Mul_T x.1 x.2.1 := by kernel_rfl
theorem bits_Mul_ok : FunOk Try.prog 22 bits_Mul_fun := evFun_ok mixed ctx0 (pc bits_Mul64_ok (no_calls)) Try.func22 (by kernel_rfl) _ (fun x => congrArg Tr.run (bits_Mul_ev x)) (by kernel_rfl) (by kernel_rfl)
/-! ### slices.Repeat[[]int,int] -/
noncomputable def slices_Repeat___int_int__L8 (newslice7 : List Int) (n8 : Int) : Tr (Lap (List Int × Int) (List Int)) :=
  .br (decide (n8 < (newslice7.length : Int))) (
    .bnd (cut newslice7 n8 (newslice7.length : Int)) fun r_3 =>
    .bnd (cut newslice7 0 n8) fun r_4 =>
    .pure (.next (splice' newslice7 ((n8).toNat) r_3.length (r_4.take ((newslice7.drop ((n8).toNat)).take r_3.length).length ++ ((newslice7.drop ((n8).toNat)).take r_3.length).drop r_4.length), IntKind.i64.wrap (n8 + ((min r_4.length ((newslice7.drop ((n8).toNat)).take r_3.length).length : Nat) : Int))))) (
    .pure (.done newslice7))
noncomputable def slices_Repeat___int_int__T (x0 : List Int) (count1 : Int) : Tr (List Int) :=
  .br (decide (count1 < 0)) (
    .fail) (
    .bnd (bits_Mul_F (IntKind.u64.wrap (x0.length : Int)) (IntKind.u64.wrap count1)) fun c_1 =>
    .br (decide (c_1.1 > 0)) (
      .fail) (
      .br (decide (c_1.2 > 9223372036854775807)) (
        .fail) (
        .bnd (mk 17592186044416 0 (IntKind.i64.wrap c_1.2)) fun r_2 =>
        .bnd (loopW (fun s => (slices_Repeat___int_int__L8 s.1 s.2).run) (x0.take r_2.length ++ r_2.drop x0.length, ((min x0.length r_2.length : Nat) : Int))) fun l_5 =>
        .pure l_5)))
noncomputable def slices_Repeat___int_int__F (x0 : List Int) (count1 : Int) : Option (List Int) := (slices_Repeat___int_int__T x0 count1).run
def slices_Repeat___int_int__L : List (Nat × LoopAnn) := [(8, { head := [.srow 7 1000007 3 true (.int .i64), .sv 8 true (.int .i64)], xid := 0, out := [.srow 7 1000007 3 true (.int .i64)], hasRet := false, res := [] })]
noncomputable def slices_Repeat___int_int__C : List (Nat × Callee) := [(22, .plain bits_Mul_fun)]
noncomputable def slices_Repeat___int_int__fun : Fun := ⟨[.sl (.int .i64), .int .i64], [.row 3 (.int .i64)], fun x => slices_Repeat___int_int__F x.1 x.2.1⟩
theorem slices_Repeat___int_int__ev (x : Tys.I [.sl (.int .i64), .int .i64]) : evFun G0 (fun f => olook f slices_Repeat___int_int__C) ⟨[], [], [], [], [], []⟩ (fun i => olook i slices_Repeat___int_int__L) Try.f21 [.sl (.int .i64), .int .i64] [.row 3 (.int .i64)] x = slices_Repeat___int_int__T x.1 x.2.1 := by kernel_rfl
theorem slices_Repeat___int_int__ok : FunOk Try.prog 21 slices_Repeat___int_int__fun := evFun_ok mixed ctx0 (pc bits_Mul_ok (no_calls)) Try.func21 (by kernel_rfl) _ (fun x => congrArg Tr.run (slices_Repeat___int_int__ev x)) (by kernel_rfl) (by kernel_rfl)
/-! ### boustrophedon/order.Back -/
noncomputable def order_Back_L3 (back6 : List Int) (t13 : List Int) (t14 : Int) (t15 : Int) : Tr (Lap (List Int × List Int × Int × Int) (Sum (List Int) Bool)) :=
  .br (decide (t15 < t14)) (
    .bnd (idx t13 t15) fun x_2 =>
    .br (decide (x_2 < 0)) (
      .pure (.done (.inr false))) (
      .br (decide (x_2 ≥ (back6.length : Int))) (
        .pure (.done (.inr false))) (
        .bnd (idx back6 x_2) fun x_3 =>
        .br (x_3 != (-1)) (
          .pure (.done (.inr false))) (
          .bnd (idx back6 x_2) fun x_4 =>
          .pure (.next (back6.set (Int.toNat x_2) t15, t13, t14, IntKind.i64.wrap (t15 + 1))))))) (
    .pure (.done (.inl back6)))
noncomputable def order_Back_T (visual0 : List Int) (levels1 : List Int) : Tr (List Int × Bool) :=
  .bnd (slices_Repeat___int_int__F ([(-1)]) (levels1.length : Int)) fun c_1 =>
  .alt (loopW (fun s => (order_Back_L3 s.1 s.2.1 s.2.2.1 s.2.2.2).run) (c_1, visual0, (visual0.length : Int), 0)) (fun l_5 =>
    .pure (l_5, true)) (fun l_6 =>
    .pure ([], l_6))
noncomputable def order_Back_F (visual0 : List Int) (levels1 : List Int) : Option (List Int × Bool) := (order_Back_T visual0 levels1).run
def order_Back_L : List (Nat × LoopAnn) := [(3, { head := [.srow 6 1000006 3 true (.int .i64), .sv 13 false (.sl (.int .i64)), .sv 14 true (.int .i64), .sv 15 true (.int .i64)], xid := 0, out := [.srow 6 1000006 3 true (.int .i64)], hasRet := true, res := [.snil 4, .sv 5 true .bool] })]
noncomputable def order_Back_C : List (Nat × Callee) := [(21, .plain slices_Repeat___int_int__fun)]
noncomputable def order_Back_fun : Fun := ⟨[.sl (.int .i64), .sl (.int .i64)], [.row 3 (.int .i64), .v .bool], fun x => order_Back_F x.1 x.2.1⟩
theorem order_Back_ev (x : Tys.I [.sl (.int .i64), .sl (.int .i64)]) : evFun G0 (fun f => olook f order_Back_C) ⟨[], [], [], [], [], []⟩ (fun i => olook i order_Back_L) Try.f15 [.sl (.int .i64), .sl (.int .i64)] [.row 3 (.int .i64), .v .bool] x = order_Back_T x.1 x.2.1 := by kernel_rfl
theorem order_Back_ok : FunOk Try.prog 15 order_Back_fun := evFun_ok mixed ctx0 (pc slices_Repeat___int_int__ok (no_calls)) Try.func15 (by kernel_rfl) _ (fun x => congrArg Tr.run (order_Back_ev x)) (by kernel_rfl) (by kernel_rfl)
/-! ### boustrophedon/boustrophedonlaw26.MarksKeep -/
noncomputable def law26_MarksKeep_L10 (levels7 : List Int) (cs8 : List Int) (widths9 : List Int) (n10 : Int) (v11 : List Int) (out12 : List Int) (ok14 : Bool) (wide15 : List Int) (even16 : List Int) (t62 : Int) (t63 : Int) : Tr (Lap (List Int × List Int × List Int × Int × List Int × List Int × Bool × List Int × List Int × Int × Int) (List Int × List Int × List Int × Int × List Int × List Int × Bool × List Int × List Int)) :=
  .br (decide (t63 < t62)) (
    .bnd (idx wide15 t63) fun x_15 =>
    .bnd (idx levels7 t63) fun x_16 =>
    .bnd (idx even16 t63) fun x_17 =>
    .pure (.next (levels7, cs8, widths9, n10, v11, out12, ok14, wide15.set (Int.toNat t63) 1, even16.set (Int.toNat t63) (IntKind.i64.wrap (2 * x_16)), t62, IntKind.i64.wrap (t63 + 1)))) (
    .pure (.done (levels7, cs8, widths9, n10, v11, out12, ok14, wide15, even16)))
noncomputable def law26_MarksKeep_L18 (levels7 : List Int) (cs8 : List Int) (n10 : Int) (v11 : List Int) (out12 : List Int) (ok14 : Bool) (wide15 : List Int) (k18 : Int) : Tr (Lap (List Int × List Int × Int × List Int × List Int × Bool × List Int × Int) (Sum (List Int × List Int × Int × List Int × List Int × Bool × List Int) Bool)) :=
  .br ok14 (
    .br (decide (k18 < (out12.length : Int))) (
      .bnd (idx out12 k18) fun x_23 =>
      .bnd (idx levels7 x_23) fun x_24 =>
      .br (x_24 == (-1)) (
        .pure (.done (.inr false))) (
        .pure (.next (levels7, cs8, n10, v11, out12, ok14, wide15, IntKind.i64.wrap (k18 + 1))))) (
      .pure (.done (.inl (levels7, cs8, n10, v11, out12, ok14, wide15))))) (
    .pure (.done (.inl (levels7, cs8, n10, v11, out12, ok14, wide15))))
noncomputable def law26_MarksKeep_T (ls0 : List Int) (ns1 : List Int) (ws2 : List Int) : Tr Bool :=
  .bnd law26_awake_F fun c_1 =>
  .br (!c_1) (
    .pure false) (
    .bnd (law12_Levels_F ls0) fun c_2 =>
    .bnd (law08_Classes_F ns1) fun c_3 =>
    .bnd (law22_Widths_F ws2) fun c_4 =>
    .bnd (cut c_2 0 (if (c_4.length : Int) < (if (c_3.length : Int) < (c_2.length : Int) then (c_3.length : Int) else (c_2.length : Int)) then (c_4.length : Int) else (if (c_3.length : Int) < (c_2.length : Int) then (c_3.length : Int) else (c_2.length : Int)))) fun r_5 =>
    .bnd (order_Visual_F r_5) fun c_6 =>
    .bnd (cut c_2 0 (if (c_4.length : Int) < (if (c_3.length : Int) < (c_2.length : Int) then (c_3.length : Int) else (c_2.length : Int)) then (c_4.length : Int) else (if (c_3.length : Int) < (c_2.length : Int) then (c_3.length : Int) else (c_2.length : Int)))) fun r_7 =>
    .bnd (cut c_3 0 (if (c_4.length : Int) < (if (c_3.length : Int) < (c_2.length : Int) then (c_3.length : Int) else (c_2.length : Int)) then (c_4.length : Int) else (if (c_3.length : Int) < (c_2.length : Int) then (c_3.length : Int) else (c_2.length : Int)))) fun r_8 =>
    .bnd (cut c_4 0 (if (c_4.length : Int) < (if (c_3.length : Int) < (c_2.length : Int) then (c_3.length : Int) else (c_2.length : Int)) then (c_4.length : Int) else (if (c_3.length : Int) < (c_2.length : Int) then (c_3.length : Int) else (c_2.length : Int)))) fun r_9 =>
    .bnd (marks_Fix_F c_6 r_7 r_8 r_9) fun c_10 =>
    .bnd (cut c_2 0 (if (c_4.length : Int) < (if (c_3.length : Int) < (c_2.length : Int) then (c_3.length : Int) else (c_2.length : Int)) then (c_4.length : Int) else (if (c_3.length : Int) < (c_2.length : Int) then (c_3.length : Int) else (c_2.length : Int)))) fun r_11 =>
    .bnd (order_Back_F c_10 r_11) fun c_12 =>
    .bnd (mk 17592186044416 0 (if (c_4.length : Int) < (if (c_3.length : Int) < (c_2.length : Int) then (c_3.length : Int) else (c_2.length : Int)) then (c_4.length : Int) else (if (c_3.length : Int) < (c_2.length : Int) then (c_3.length : Int) else (c_2.length : Int)))) fun r_13 =>
    .bnd (mk 17592186044416 0 (if (c_4.length : Int) < (if (c_3.length : Int) < (c_2.length : Int) then (c_3.length : Int) else (c_2.length : Int)) then (c_4.length : Int) else (if (c_3.length : Int) < (c_2.length : Int) then (c_3.length : Int) else (c_2.length : Int)))) fun r_14 =>
    .bnd (loopW (fun s => (law26_MarksKeep_L10 s.1 s.2.1 s.2.2.1 s.2.2.2.1 s.2.2.2.2.1 s.2.2.2.2.2.1 s.2.2.2.2.2.2.1 s.2.2.2.2.2.2.2.1 s.2.2.2.2.2.2.2.2.1 s.2.2.2.2.2.2.2.2.2.1 s.2.2.2.2.2.2.2.2.2.2).run) (c_2, c_3, c_4, if (c_4.length : Int) < (if (c_3.length : Int) < (c_2.length : Int) then (c_3.length : Int) else (c_2.length : Int)) then (c_4.length : Int) else (if (c_3.length : Int) < (c_2.length : Int) then (c_3.length : Int) else (c_2.length : Int)), c_6, c_10, c_12.2, r_13, r_14, (r_13.length : Int), 0)) fun l_18 =>
    .bnd (cut l_18.2.1 0 l_18.2.2.2.1) fun r_19 =>
    .bnd (cut l_18.2.2.1 0 l_18.2.2.2.1) fun r_20 =>
    .bnd (marks_Fix_F l_18.2.2.2.2.1 l_18.2.2.2.2.2.2.2.2 r_19 r_20) fun c_21 =>
    .bnd (law25_Same_F c_21 l_18.2.2.2.2.1) fun c_22 =>
    .br (!c_22) (
      .pure false) (
      .alt (loopW (fun s => (law26_MarksKeep_L18 s.1 s.2.1 s.2.2.1 s.2.2.2.1 s.2.2.2.2.1 s.2.2.2.2.2.1 s.2.2.2.2.2.2.1 s.2.2.2.2.2.2.2).run) (l_18.1, l_18.2.1, l_18.2.2.2.1, l_18.2.2.2.2.1, l_18.2.2.2.2.2.1, l_18.2.2.2.2.2.2.1, l_18.2.2.2.2.2.2.2.1, 0)) (fun l_25 =>
        .br l_25.2.2.2.2.2.1 (
          .br ((l_25.2.2.2.2.1.length : Int) == (l_25.2.2.2.1.length : Int)) (
            .bnd (cut l_25.1 0 l_25.2.2.1) fun r_26 =>
            .bnd (cut l_25.2.1 0 l_25.2.2.1) fun r_27 =>
            .bnd (marks_Fix_F l_25.2.2.2.1 r_26 r_27 l_25.2.2.2.2.2.2) fun c_28 =>
            .bnd (law25_Same_F c_28 l_25.2.2.2.1) fun c_29 =>
            .pure c_29) (
            .pure false)) (
          .pure false)) (fun l_30 =>
        .pure l_30)))
noncomputable def law26_MarksKeep_F (ls0 : List Int) (ns1 : List Int) (ws2 : List Int) : Option Bool := (law26_MarksKeep_T ls0 ns1 ws2).run
def law26_MarksKeep_L : List (Nat × LoopAnn) := [(10, { head := [.srow 7 1000007 3 true (.int .i64), .srow 8 1000008 35 true (.int .u8), .srow 9 1000009 3 true (.int .i64), .sv 10 true (.int .i64), .srow 11 1000011 3 true (.int .i64), .srow 12 1000012 3 true (.int .i64), .sv 14 true .bool, .srow 15 1000015 3 true (.int .i64), .srow 16 1000016 3 true (.int .i64), .sv 62 true (.int .i64), .sv 63 true (.int .i64)], xid := 0, out := [.srow 7 1000007 3 true (.int .i64), .srow 8 1000008 35 true (.int .u8), .srow 9 1000009 3 true (.int .i64), .sv 10 true (.int .i64), .srow 11 1000011 3 true (.int .i64), .srow 12 1000012 3 true (.int .i64), .sv 14 true .bool, .srow 15 1000015 3 true (.int .i64), .srow 16 1000016 3 true (.int .i64)], hasRet := false, res := [] }), (18, { head := [.srow 7 1000007 3 true (.int .i64), .srow 8 1000008 35 true (.int .u8), .sv 10 true (.int .i64), .srow 11 1000011 3 true (.int .i64), .srow 12 1000012 3 true (.int .i64), .sv 14 true .bool, .srow 15 1000015 3 true (.int .i64), .sv 18 true (.int .i64)], xid := 2, out := [.srow 7 1000007 3 true (.int .i64), .srow 8 1000008 35 true (.int .u8), .sv 10 true (.int .i64), .srow 11 1000011 3 true (.int .i64), .srow 12 1000012 3 true (.int .i64), .sv 14 true .bool, .srow 15 1000015 3 true (.int .i64)], hasRet := true, res := [.sv 6 true .bool] })]
noncomputable def law26_MarksKeep_C : List (Nat × Callee) := [(7, .plain law26_awake_fun), (8, .plain law12_Levels_fun), (9, .plain law08_Classes_fun), (10, .plain law22_Widths_fun), (11, .plain order_Visual_fun), (12, .plain marks_Fix_fun), (15, .plain order_Back_fun), (13, .plain law25_Same_fun)]
noncomputable def law26_MarksKeep_fun : Fun := ⟨[.sl (.int .u8), .sl (.int .u8), .sl (.int .u8)], [.v .bool], fun x => law26_MarksKeep_F x.1 x.2.1 x.2.2.1⟩
noncomputable def law26_MarksKeep_T2 (ls0 : List Int) (ns1 : List Int) (ws2 : List Int) : Tr Bool :=
  .bnd law26_awake_F fun c_1 =>
  .br (!c_1) (
    .pure false) (
    .bnd (law12_Levels_F ls0) fun c_2 =>
    .bnd (law08_Classes_F ns1) fun c_3 =>
    .bnd (law22_Widths_F ws2) fun c_4 =>
    .bnd (cut c_2 0 (if (c_4.length : Int) < (if (c_3.length : Int) < (c_2.length : Int) then (c_3.length : Int) else (c_2.length : Int)) then (c_4.length : Int) else (if (c_3.length : Int) < (c_2.length : Int) then (c_3.length : Int) else (c_2.length : Int)))) fun r_5 =>
    .bnd (order_Visual_F r_5) fun c_6 =>
    .bnd (cut c_2 0 (if (c_4.length : Int) < (if (c_3.length : Int) < (c_2.length : Int) then (c_3.length : Int) else (c_2.length : Int)) then (c_4.length : Int) else (if (c_3.length : Int) < (c_2.length : Int) then (c_3.length : Int) else (c_2.length : Int)))) fun r_7 =>
    .bnd (cut c_3 0 (if (c_4.length : Int) < (if (c_3.length : Int) < (c_2.length : Int) then (c_3.length : Int) else (c_2.length : Int)) then (c_4.length : Int) else (if (c_3.length : Int) < (c_2.length : Int) then (c_3.length : Int) else (c_2.length : Int)))) fun r_8 =>
    .bnd (cut c_4 0 (if (c_4.length : Int) < (if (c_3.length : Int) < (c_2.length : Int) then (c_3.length : Int) else (c_2.length : Int)) then (c_4.length : Int) else (if (c_3.length : Int) < (c_2.length : Int) then (c_3.length : Int) else (c_2.length : Int)))) fun r_9 =>
    .bnd (marks_Fix_F c_6 r_7 r_8 r_9) fun c_10 =>
    .bnd (cut c_2 0 (if (c_4.length : Int) < (if (c_3.length : Int) < (c_2.length : Int) then (c_3.length : Int) else (c_2.length : Int)) then (c_4.length : Int) else (if (c_3.length : Int) < (c_2.length : Int) then (c_3.length : Int) else (c_2.length : Int)))) fun r_11 =>
    .bnd (order_Back_F c_10 r_11) fun c_12 =>
    .bnd (mk 17592186044416 0 (if (c_4.length : Int) < (if (c_3.length : Int) < (c_2.length : Int) then (c_3.length : Int) else (c_2.length : Int)) then (c_4.length : Int) else (if (c_3.length : Int) < (c_2.length : Int) then (c_3.length : Int) else (c_2.length : Int)))) fun r_13 =>
    .bnd (mk 17592186044416 0 (if (c_4.length : Int) < (if (c_3.length : Int) < (c_2.length : Int) then (c_3.length : Int) else (c_2.length : Int)) then (c_4.length : Int) else (if (c_3.length : Int) < (c_2.length : Int) then (c_3.length : Int) else (c_2.length : Int)))) fun r_14 =>
    .bnd (loopW (fun s => (law26_MarksKeep_L10 s.1 s.2.1 s.2.2.1 s.2.2.2.1 s.2.2.2.2.1 s.2.2.2.2.2.1 s.2.2.2.2.2.2.1 s.2.2.2.2.2.2.2.1 s.2.2.2.2.2.2.2.2.1 s.2.2.2.2.2.2.2.2.2.1 s.2.2.2.2.2.2.2.2.2.2).run) (c_2, c_3, c_4, if (c_4.length : Int) < (if (c_3.length : Int) < (c_2.length : Int) then (c_3.length : Int) else (c_2.length : Int)) then (c_4.length : Int) else (if (c_3.length : Int) < (c_2.length : Int) then (c_3.length : Int) else (c_2.length : Int)), c_6, c_10, c_12.2, r_14, r_13, (r_14.length : Int), 0)) fun l_18 =>
    .bnd (cut l_18.2.1 0 l_18.2.2.2.1) fun r_19 =>
    .bnd (cut l_18.2.2.1 0 l_18.2.2.2.1) fun r_20 =>
    .bnd (marks_Fix_F l_18.2.2.2.2.1 l_18.2.2.2.2.2.2.2.2 r_19 r_20) fun c_21 =>
    .bnd (law25_Same_F c_21 l_18.2.2.2.2.1) fun c_22 =>
    .br (!c_22) (
      .pure false) (
      .alt (loopW (fun s => (law26_MarksKeep_L18 s.1 s.2.1 s.2.2.1 s.2.2.2.1 s.2.2.2.2.1 s.2.2.2.2.2.1 s.2.2.2.2.2.2.1 s.2.2.2.2.2.2.2).run) (l_18.1, l_18.2.1, l_18.2.2.2.1, l_18.2.2.2.2.1, l_18.2.2.2.2.2.1, l_18.2.2.2.2.2.2.1, l_18.2.2.2.2.2.2.2.1, 0)) (fun l_25 =>
        .br l_25.2.2.2.2.2.1 (
          .br ((l_25.2.2.2.2.1.length : Int) == (l_25.2.2.2.1.length : Int)) (
            .bnd (cut l_25.1 0 l_25.2.2.1) fun r_26 =>
            .bnd (cut l_25.2.1 0 l_25.2.2.1) fun r_27 =>
            .bnd (marks_Fix_F l_25.2.2.2.1 r_26 r_27 l_25.2.2.2.2.2.2) fun c_28 =>
            .bnd (law25_Same_F c_28 l_25.2.2.2.1) fun c_29 =>
            .pure c_29) (
            .pure false)) (
          .pure false)) (fun l_30 =>
        .pure l_30)))
def law26_MarksKeep_W : Twin := ⟨8, 1, 3, [0, 2], [1, 3, 4, 5], [3, 1, 4, 5], [3]⟩
theorem law26_MarksKeep_ev (x : Tys.I [.sl (.int .u8), .sl (.int .u8), .sl (.int .u8)]) : evFunW G0 (fun f => olook f law26_MarksKeep_C) ⟨[], [], [], [], [], []⟩ (fun i => olook i law26_MarksKeep_L) law26_MarksKeep_W false Try.f5 [.sl (.int .u8), .sl (.int .u8), .sl (.int .u8)] [.v .bool] x = law26_MarksKeep_T x.1 x.2.1 x.2.2.1 := by kernel_rfl
theorem law26_MarksKeep_ev2 (x : Tys.I [.sl (.int .u8), .sl (.int .u8), .sl (.int .u8)]) : evFunW G0 (fun f => olook f law26_MarksKeep_C) ⟨[], [], [], [], [], []⟩ (fun i => olook i law26_MarksKeep_L) law26_MarksKeep_W true Try.f5 [.sl (.int .u8), .sl (.int .u8), .sl (.int .u8)] [.v .bool] x = law26_MarksKeep_T2 x.1 x.2.1 x.2.2.1 := by kernel_rfl
theorem law26_MarksKeep_same (ls0 : List Int) (ns1 : List Int) (ws2 : List Int) : (law26_MarksKeep_T2 ls0 ns1 ws2).run = (law26_MarksKeep_T ls0 ns1 ws2).run := by
  unfold law26_MarksKeep_T2 law26_MarksKeep_T
  repeat' (first | with_reducible rfl | (refine Tr.box_l ?_) | (refine Tr.box_r ?_) | exact Tr.swap2 _ _ _ | (refine Tr.bnd_congr fun _ => ?_) | (refine Tr.br_congr ?_ ?_) | (refine Tr.alt_congr (fun _ => ?_) (fun _ => ?_)))
theorem law26_MarksKeep_ok : FunOk Try.prog 5 law26_MarksKeep_fun := evFunW_ok (t := law26_MarksKeep_W) mixed ctx0 (pc law26_awake_ok (pc law12_Levels_ok (pc law08_Classes_ok (pc law22_Widths_ok (pc order_Visual_ok (pc marks_Fix_ok (pc order_Back_ok (pc law25_Same_ok (no_calls))))))))) Try.func5 (by kernel_rfl) _ (fun x => congrArg Tr.run (law26_MarksKeep_ev x)) (fun x => (congrArg Tr.run (law26_MarksKeep_ev2 x)).trans (law26_MarksKeep_same x.1 x.2.1 x.2.2.1)) (by kernel_rfl) (by kernel_rfl)
end Go.Proofs.Ytggnnjofbknjjaa
