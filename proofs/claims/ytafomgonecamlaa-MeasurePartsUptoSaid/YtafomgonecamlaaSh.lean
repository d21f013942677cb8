/-
  The plain readings of the functions of this seat, by program; each is tied to the loaded function.
-/
import Derived.Test.YtafomgonecamlaaEvErr
import Derived.Test.YtafomgonecamlaaChecked
namespace Go.Proofs.Ytafomgonecamlaa
set_option maxRecDepth 100000
set_option linter.unusedVariables false

def G0 : Ctx := { ty := [(3, .int .i64), (4, .bool), (5, .int .u8), (22, .sl (.int .u8)), (24, .sl (.int .i64)), (26, .sl (.int .u8)), (28, .ptr (.st (.pair (.sl (.int .i64)) (.sl (.int .i64))))), (31, .int .u8), (51, .st (.pair (.sl (.int .i64)) (.sl (.int .i64))))], sls := [(22, ⟨5, .int .u8, 140737488355328⟩), (24, ⟨3, .int .i64, 17592186044416⟩), (26, ⟨31, .int .u8, 140737488355328⟩)], eqs := [], enos := [54] }
theorem mixed : Try.prog.follows .mixedOrders = true := by kernel_rfl
theorem ctx0 : CtxOk Try.prog G0 := ctx_ok (by kernel_rfl)
theorem no_calls {Λ : List Nat} : ∀ f fa, olook f ([] : List (Nat × Callee)) = some fa → CalleeOk Try.prog f fa ∧ (fa.isPlain = false → inList f Λ = true) := fun _ _ h => by cases h
theorem cons_calls {Λ : List Nat} {k : Nat} {fb : Callee} {l : List (Nat × Callee)} (h : CalleeOk Try.prog k fb) (hi : fb.isPlain = false → inList k Λ = true) (hl : ∀ f fa, olook f l = some fa → CalleeOk Try.prog f fa ∧ (fa.isPlain = false → inList f Λ = true)) : ∀ f fa, olook f ((k, fb) :: l) = some fa → CalleeOk Try.prog f fa ∧ (fa.isPlain = false → inList f Λ = true) := by
  intro f fa hf
  rw [olook_cons] at hf
  split at hf
  · rename_i e; subst e; cases hf; exact ⟨h, hi⟩
  · exact hl f fa hf

/-! ### boustrophedon/measure.Of -/
noncomputable def measure_Of_L4 (widths0 : List Int) (cs1 : List Int) (r5 : List Int × List Int) (sum6 : Int) (solid7 : Int) (t15 : Int) (t16 : Int) : Tr (Lap (List Int × List Int × (List Int × List Int) × Int × Int × Int × Int) (List Int × List Int)) :=
  .br (decide (t16 < t15)) (
    .bnd (idx widths0 t16) fun x_1 =>
    .bnd (idx cs1 t16) fun x_2 =>
    .br (x_2 != 9) (
      .bnd (app 17592186044416 r5.1 ([IntKind.i64.wrap (sum6 + x_1)])) fun r_3 =>
      .bnd (app 17592186044416 r5.2 ([IntKind.i64.wrap (t16 + 1)])) fun r_4 =>
      .pure (.next (widths0, cs1, (r_3, r_4), IntKind.i64.wrap (sum6 + x_1), IntKind.i64.wrap (t16 + 1), t15, IntKind.i64.wrap (t16 + 1)))) (
      .bnd (app 17592186044416 r5.1 ([IntKind.i64.wrap (sum6 + x_1)])) fun r_5 =>
      .bnd (app 17592186044416 r5.2 ([solid7])) fun r_6 =>
      .pure (.next (widths0, cs1, (r_5, r_6), IntKind.i64.wrap (sum6 + x_1), solid7, t15, IntKind.i64.wrap (t16 + 1))))) (
    .pure (.done (r5.1, r5.2)))
noncomputable def measure_Of_T (widths0 : List Int) (cs1 : List Int) : Tr (List Int × List Int) :=
  .bnd (loopW (fun s => (measure_Of_L4 s.1 s.2.1 s.2.2.1 s.2.2.2.1 s.2.2.2.2.1 s.2.2.2.2.2.1 s.2.2.2.2.2.2).run) (widths0, cs1, ([], []), 0, 0, if (cs1.length : Int) < (widths0.length : Int) then (cs1.length : Int) else (widths0.length : Int), 0)) fun l_7 =>
  .pure (l_7.1, l_7.2)
noncomputable def measure_Of_F (widths0 : List Int) (cs1 : List Int) : Option (List Int × List Int) := (measure_Of_T widths0 cs1).run
def measure_Of_L : List (Nat × LoopAnn) := [(4, { head := [.sv 0 false (.sl (.int .i64)), .sv 1 false (.sl (.int .u8)), .sboxh 5 1000005 51 (.st (.pair (.sl (.int .i64)) (.sl (.int .i64)))) [(0, 3), (1, 3)], .sv 6 true (.int .i64), .sv 7 true (.int .i64), .sv 15 true (.int .i64), .sv 16 true (.int .i64)], xid := 0, out := [.sboxh 5 1000005 51 (.st (.pair (.sl (.int .i64)) (.sl (.int .i64)))) [(0, 3), (1, 3)]], hasRet := false, res := [] })]
noncomputable def measure_Of_C : List (Nat × Callee) := []
noncomputable def measure_Of_fun : Fun := ⟨[.sl (.int .i64), .sl (.int .u8)], [.v (.ptr (.st (.pair (.sl (.int .i64)) (.sl (.int .i64)))))], fun x => measure_Of_F x.1 x.2.1⟩
theorem measure_Of_ev (x : Tys.I [.sl (.int .i64), .sl (.int .u8)]) : evFunP G0 (fun f => olook f measure_Of_C) ⟨[], [], [], [], [], [(9, [(0, 3), (1, 3)])]⟩ (fun i => olook i measure_Of_L) Try.f13 [.sl (.int .i64), .sl (.int .u8)] (.st (.pair (.sl (.int .i64)) (.sl (.int .i64)))) [(0, 3), (1, 3)] x = measure_Of_T x.1 x.2.1 := by kernel_rfl
theorem measure_Of_ok : FunOk Try.prog 13 measure_Of_fun := evFunP_ok mixed ctx0 (no_calls) Try.func13 (by kernel_rfl) _ (fun x => congrArg Tr.run (measure_Of_ev x)) (by kernel_rfl) (by kernel_rfl)
/-! ### (*boustrophedon/measure.Ruler).Count -/
noncomputable def measure_Ruler_Count_T (r0 : List Int × List Int) : Tr Int :=
  .pure (r0.1.length : Int)
noncomputable def measure_Ruler_Count_F (r0 : List Int × List Int) : Option Int := (measure_Ruler_Count_T r0).run
def measure_Ruler_Count_L : List (Nat × LoopAnn) := []
noncomputable def measure_Ruler_Count_C : List (Nat × Callee) := []
noncomputable def measure_Ruler_Count_fun : Fun := ⟨[.ptr (.st (.pair (.sl (.int .i64)) (.sl (.int .i64))))], [.v (.int .i64)], fun x => measure_Ruler_Count_F x.1⟩
theorem measure_Ruler_Count_ev (x : Tys.I [.ptr (.st (.pair (.sl (.int .i64)) (.sl (.int .i64))))]) : evFun G0 (fun f => olook f measure_Ruler_Count_C) ⟨[], [], [], [], [], []⟩ (fun i => olook i measure_Ruler_Count_L) Try.f14 [.ptr (.st (.pair (.sl (.int .i64)) (.sl (.int .i64))))] [.v (.int .i64)] x = measure_Ruler_Count_T x.1 := by kernel_rfl
theorem measure_Ruler_Count_ok : FunOk Try.prog 14 measure_Ruler_Count_fun := evFun_ok mixed ctx0 (no_calls) Try.func14 (by kernel_rfl) _ (fun x => congrArg Tr.run (measure_Ruler_Count_ev x)) (by kernel_rfl) (by kernel_rfl)
/-! ### boustrophedon/measure.upTo -/
noncomputable def measure_upTo_T (known0 : List Int) (at1 : Int) : Tr Int :=
  .br (at1 == 0) (
    .pure 0) (
    .bnd (idx known0 (IntKind.i64.wrap (at1 - 1))) fun x_1 =>
    .pure x_1)
noncomputable def measure_upTo_F (known0 : List Int) (at1 : Int) : Option Int := (measure_upTo_T known0 at1).run
def measure_upTo_L : List (Nat × LoopAnn) := []
noncomputable def measure_upTo_C : List (Nat × Callee) := []
noncomputable def measure_upTo_fun : Fun := ⟨[.sl (.int .i64), .int .i64], [.v (.int .i64)], fun x => measure_upTo_F x.1 x.2.1⟩
theorem measure_upTo_ev (x : Tys.I [.sl (.int .i64), .int .i64]) : evFun G0 (fun f => olook f measure_upTo_C) ⟨[], [], [], [], [], []⟩ (fun i => olook i measure_upTo_L) Try.f22 [.sl (.int .i64), .int .i64] [.v (.int .i64)] x = measure_upTo_T x.1 x.2.1 := by kernel_rfl
theorem measure_upTo_ok : FunOk Try.prog 22 measure_upTo_fun := evFun_ok mixed ctx0 (no_calls) Try.func22 (by kernel_rfl) _ (fun x => congrArg Tr.run (measure_upTo_ev x)) (by kernel_rfl) (by kernel_rfl)
/-! ### (*boustrophedon/measure.Ruler).Cells -/
noncomputable def measure_Ruler_Cells_T (r0 : List Int × List Int) (from1 : Int) (to2 : Int) : Tr Int :=
  .br (decide (from1 < 0)) (
    .pure 0) (
    .br (decide (from1 > to2)) (
      .pure 0) (
      .bnd (measure_Ruler_Count_F r0) fun c_1 =>
      .br (decide (to2 > c_1)) (
        .pure 0) (
        .bnd (measure_upTo_F r0.1 to2) fun c_2 =>
        .bnd (measure_upTo_F r0.1 from1) fun c_3 =>
        .pure (IntKind.i64.wrap (c_2 - c_3)))))
noncomputable def measure_Ruler_Cells_F (r0 : List Int × List Int) (from1 : Int) (to2 : Int) : Option Int := (measure_Ruler_Cells_T r0 from1 to2).run
def measure_Ruler_Cells_L : List (Nat × LoopAnn) := []
noncomputable def measure_Ruler_Cells_C : List (Nat × Callee) := [(14, .plain measure_Ruler_Count_fun), (22, .plain measure_upTo_fun)]
noncomputable def measure_Ruler_Cells_fun : Fun := ⟨[.ptr (.st (.pair (.sl (.int .i64)) (.sl (.int .i64)))), .int .i64, .int .i64], [.v (.int .i64)], fun x => measure_Ruler_Cells_F x.1 x.2.1 x.2.2.1⟩
theorem measure_Ruler_Cells_ev (x : Tys.I [.ptr (.st (.pair (.sl (.int .i64)) (.sl (.int .i64)))), .int .i64, .int .i64]) : evFun G0 (fun f => olook f measure_Ruler_Cells_C) ⟨[], [(3, [0, 1, 2, 3, 4, 6, 7, 8, 9, 10, 5, 11, 12, 13])], [], [], [], []⟩ (fun i => olook i measure_Ruler_Cells_L) Try.f15 [.ptr (.st (.pair (.sl (.int .i64)) (.sl (.int .i64)))), .int .i64, .int .i64] [.v (.int .i64)] x = measure_Ruler_Cells_T x.1 x.2.1 x.2.2.1 := by kernel_rfl
theorem measure_Ruler_Cells_ok : FunOk Try.prog 15 measure_Ruler_Cells_fun := evFun_ok mixed ctx0 (cons_calls (fb := .plain measure_Ruler_Count_fun) measure_Ruler_Count_ok (fun h => by cases h) (cons_calls (fb := .plain measure_upTo_fun) measure_upTo_ok (fun h => by cases h) (no_calls))) Try.func15 (by kernel_rfl) _ (fun x => congrArg Tr.run (measure_Ruler_Cells_ev x)) (by kernel_rfl) (by kernel_rfl)
/-! ### (*boustrophedon/measure.Ruler).Shown -/
noncomputable def measure_Ruler_Shown_T (r0 : List Int × List Int) (from1 : Int) (to2 : Int) : Tr Int :=
  .br (decide (to2 < 0)) (
    .pure 0) (
    .bnd (measure_Ruler_Count_F r0) fun c_1 =>
    .br (decide (to2 > c_1)) (
      .pure 0) (
      .bnd (measure_upTo_F r0.2 to2) fun c_2 =>
      .bnd (measure_Ruler_Cells_F r0 from1 (if (if c_2 > from1 then c_2 else from1) < to2 then (if c_2 > from1 then c_2 else from1) else to2)) fun c_3 =>
      .pure c_3))
noncomputable def measure_Ruler_Shown_F (r0 : List Int × List Int) (from1 : Int) (to2 : Int) : Option Int := (measure_Ruler_Shown_T r0 from1 to2).run
def measure_Ruler_Shown_L : List (Nat × LoopAnn) := []
noncomputable def measure_Ruler_Shown_C : List (Nat × Callee) := [(14, .plain measure_Ruler_Count_fun), (22, .plain measure_upTo_fun), (15, .plain measure_Ruler_Cells_fun)]
noncomputable def measure_Ruler_Shown_fun : Fun := ⟨[.ptr (.st (.pair (.sl (.int .i64)) (.sl (.int .i64)))), .int .i64, .int .i64], [.v (.int .i64)], fun x => measure_Ruler_Shown_F x.1 x.2.1 x.2.2.1⟩
theorem measure_Ruler_Shown_ev (x : Tys.I [.ptr (.st (.pair (.sl (.int .i64)) (.sl (.int .i64)))), .int .i64, .int .i64]) : evFun G0 (fun f => olook f measure_Ruler_Shown_C) ⟨[], [], [], [], [], []⟩ (fun i => olook i measure_Ruler_Shown_L) Try.f16 [.ptr (.st (.pair (.sl (.int .i64)) (.sl (.int .i64)))), .int .i64, .int .i64] [.v (.int .i64)] x = measure_Ruler_Shown_T x.1 x.2.1 x.2.2.1 := by kernel_rfl
theorem measure_Ruler_Shown_ok : FunOk Try.prog 16 measure_Ruler_Shown_fun := evFun_ok mixed ctx0 (cons_calls (fb := .plain measure_Ruler_Count_fun) measure_Ruler_Count_ok (fun h => by cases h) (cons_calls (fb := .plain measure_upTo_fun) measure_upTo_ok (fun h => by cases h) (cons_calls (fb := .plain measure_Ruler_Cells_fun) measure_Ruler_Cells_ok (fun h => by cases h) (no_calls)))) Try.func16 (by kernel_rfl) _ (fun x => congrArg Tr.run (measure_Ruler_Shown_ev x)) (by kernel_rfl) (by kernel_rfl)
/-! ### (*boustrophedon/measure.Ruler).Whole -/
noncomputable def measure_Ruler_Whole_T (r0 : List Int × List Int) (at1 : Int) : Tr Bool :=
  .bnd (measure_Ruler_Count_F r0) fun c_1 =>
  .br (at1 == c_1) (
    .pure true) (
    .bnd (measure_Ruler_Cells_F r0 at1 (IntKind.i64.wrap (at1 + 1))) fun c_2 =>
    .pure (c_2 != 0))
noncomputable def measure_Ruler_Whole_F (r0 : List Int × List Int) (at1 : Int) : Option Bool := (measure_Ruler_Whole_T r0 at1).run
def measure_Ruler_Whole_L : List (Nat × LoopAnn) := []
noncomputable def measure_Ruler_Whole_C : List (Nat × Callee) := [(14, .plain measure_Ruler_Count_fun), (15, .plain measure_Ruler_Cells_fun)]
noncomputable def measure_Ruler_Whole_fun : Fun := ⟨[.ptr (.st (.pair (.sl (.int .i64)) (.sl (.int .i64)))), .int .i64], [.v .bool], fun x => measure_Ruler_Whole_F x.1 x.2.1⟩
theorem measure_Ruler_Whole_ev (x : Tys.I [.ptr (.st (.pair (.sl (.int .i64)) (.sl (.int .i64)))), .int .i64]) : evFun G0 (fun f => olook f measure_Ruler_Whole_C) ⟨[], [], [], [], [], []⟩ (fun i => olook i measure_Ruler_Whole_L) Try.f17 [.ptr (.st (.pair (.sl (.int .i64)) (.sl (.int .i64)))), .int .i64] [.v .bool] x = measure_Ruler_Whole_T x.1 x.2.1 := by kernel_rfl
theorem measure_Ruler_Whole_ok : FunOk Try.prog 17 measure_Ruler_Whole_fun := evFun_ok mixed ctx0 (cons_calls (fb := .plain measure_Ruler_Count_fun) measure_Ruler_Count_ok (fun h => by cases h) (cons_calls (fb := .plain measure_Ruler_Cells_fun) measure_Ruler_Cells_ok (fun h => by cases h) (no_calls))) Try.func17 (by kernel_rfl) _ (fun x => congrArg Tr.run (measure_Ruler_Whole_ev x)) (by kernel_rfl) (by kernel_rfl)
/-! ### boustrophedon/boustrophedonlaw22.awake -/
noncomputable def law22_awake_T : Tr Bool :=
  .bnd (measure_Of_F ([1, 1, 1, 0]) ([1, 9, 9, 3])) fun c_1 =>
  .bnd (measure_Ruler_Count_F c_1) fun c_2 =>
  .br (c_2 == 4) (
    .bnd (measure_Ruler_Cells_F c_1 0 3) fun c_3 =>
    .br (c_3 == 3) (
      .bnd (measure_Ruler_Shown_F c_1 0 3) fun c_4 =>
      .br (c_4 == 1) (
        .bnd (measure_Ruler_Shown_F c_1 1 3) fun c_5 =>
        .br (c_5 == 0) (
          .bnd (measure_Ruler_Whole_F c_1 3) fun c_6 =>
          .br (!c_6) (
            .bnd (measure_Ruler_Whole_F c_1 4) fun c_7 =>
            .pure c_7) (
            .pure false)) (
          .pure false)) (
        .pure false)) (
      .pure false)) (
    .pure false)
noncomputable def law22_awake_F : Option Bool := (law22_awake_T).run
def law22_awake_L : List (Nat × LoopAnn) := []
noncomputable def law22_awake_C : List (Nat × Callee) := [(13, .plain measure_Of_fun), (14, .plain measure_Ruler_Count_fun), (15, .plain measure_Ruler_Cells_fun), (16, .plain measure_Ruler_Shown_fun), (17, .plain measure_Ruler_Whole_fun)]
noncomputable def law22_awake_fun : Fun := ⟨[], [.v .bool], fun _ => law22_awake_F⟩
theorem law22_awake_ev (x : Tys.I []) : evFun G0 (fun f => olook f law22_awake_C) ⟨[], [], [], [], [], []⟩ (fun i => olook i law22_awake_L) Try.f10 [] [.v .bool] x = law22_awake_T := by kernel_rfl
theorem law22_awake_ok : FunOk Try.prog 10 law22_awake_fun := evFun_ok mixed ctx0 (cons_calls (fb := .plain measure_Of_fun) measure_Of_ok (fun h => by cases h) (cons_calls (fb := .plain measure_Ruler_Count_fun) measure_Ruler_Count_ok (fun h => by cases h) (cons_calls (fb := .plain measure_Ruler_Cells_fun) measure_Ruler_Cells_ok (fun h => by cases h) (cons_calls (fb := .plain measure_Ruler_Shown_fun) measure_Ruler_Shown_ok (fun h => by cases h) (cons_calls (fb := .plain measure_Ruler_Whole_fun) measure_Ruler_Whole_ok (fun h => by cases h) (no_calls)))))) Try.func10 (by kernel_rfl) _ (fun x => congrArg Tr.run (law22_awake_ev x)) (by kernel_rfl) (by kernel_rfl)
/-! ### boustrophedon/boustrophedonlaw22.Widths -/
noncomputable def law22_Widths_L3 (ns0 : List Int) (out3 : List Int) (k4 : Int) : Tr (Lap (List Int × List Int × Int) (List Int)) :=
  .br (decide (k4 < (ns0.length : Int))) (
    .bnd (idx ns0 k4) fun x_1 =>
    .bnd (app 17592186044416 out3 ([IntKind.i64.wrap (x_1.tmod 3)])) fun r_2 =>
    .pure (.next (ns0, r_2, IntKind.i64.wrap (k4 + 1)))) (
    .pure (.done out3))
noncomputable def law22_Widths_T (ns0 : List Int) : Tr (List Int) :=
  .bnd (loopW (fun s => (law22_Widths_L3 s.1 s.2.1 s.2.2).run) (ns0, [], 0)) fun l_3 =>
  .pure l_3
noncomputable def law22_Widths_F (ns0 : List Int) : Option (List Int) := (law22_Widths_T ns0).run
def law22_Widths_L : List (Nat × LoopAnn) := [(3, { head := [.sv 0 false (.sl (.int .u8)), .srow 3 1000003 3 true (.int .i64), .sv 4 true (.int .i64)], xid := 0, out := [.srow 3 1000003 3 true (.int .i64)], hasRet := false, res := [] })]
noncomputable def law22_Widths_C : List (Nat × Callee) := []
noncomputable def law22_Widths_fun : Fun := ⟨[.sl (.int .u8)], [.row 3 (.int .i64)], fun x => law22_Widths_F x.1⟩
theorem law22_Widths_ev (x : Tys.I [.sl (.int .u8)]) : evFun G0 (fun f => olook f law22_Widths_C) ⟨[], [], [], [], [], []⟩ (fun i => olook i law22_Widths_L) Try.f11 [.sl (.int .u8)] [.row 3 (.int .i64)] x = law22_Widths_T x.1 := by kernel_rfl
theorem law22_Widths_ok : FunOk Try.prog 11 law22_Widths_fun := evFun_ok mixed ctx0 (no_calls) Try.func11 (by kernel_rfl) _ (fun x => congrArg Tr.run (law22_Widths_ev x)) (by kernel_rfl) (by kernel_rfl)
/-! ### boustrophedon/boustrophedonlaw19.Classes -/
noncomputable def law19_Classes_L3 (ns0 : List Int) (out3 : List Int) (k4 : Int) : Tr (Lap (List Int × List Int × Int) (List Int)) :=
  .br (decide (k4 < (ns0.length : Int))) (
    .bnd (idx ns0 k4) fun x_1 =>
    .bnd (app 140737488355328 out3 ([x_1.tmod 43])) fun r_2 =>
    .pure (.next (ns0, r_2, IntKind.i64.wrap (k4 + 1)))) (
    .pure (.done out3))
noncomputable def law19_Classes_T (ns0 : List Int) : Tr (List Int) :=
  .bnd (loopW (fun s => (law19_Classes_L3 s.1 s.2.1 s.2.2).run) (ns0, [], 0)) fun l_3 =>
  .pure l_3
noncomputable def law19_Classes_F (ns0 : List Int) : Option (List Int) := (law19_Classes_T ns0).run
def law19_Classes_L : List (Nat × LoopAnn) := [(3, { head := [.sv 0 false (.sl (.int .u8)), .srow 3 1000003 31 true (.int .u8), .sv 4 true (.int .i64)], xid := 0, out := [.srow 3 1000003 31 true (.int .u8)], hasRet := false, res := [] })]
noncomputable def law19_Classes_C : List (Nat × Callee) := []
noncomputable def law19_Classes_fun : Fun := ⟨[.sl (.int .u8)], [.row 31 (.int .u8)], fun x => law19_Classes_F x.1⟩
theorem law19_Classes_ev (x : Tys.I [.sl (.int .u8)]) : evFun G0 (fun f => olook f law19_Classes_C) ⟨[], [], [], [], [], []⟩ (fun i => olook i law19_Classes_L) Try.f12 [.sl (.int .u8)] [.row 31 (.int .u8)] x = law19_Classes_T x.1 := by kernel_rfl
theorem law19_Classes_ok : FunOk Try.prog 12 law19_Classes_fun := evFun_ok mixed ctx0 (no_calls) Try.func12 (by kernel_rfl) _ (fun x => congrArg Tr.run (law19_Classes_ev x)) (by kernel_rfl) (by kernel_rfl)
/-! ### boustrophedon/boustrophedonlaw22.MeasureCells -/
noncomputable def law22_MeasureCells_L11 (from2 : Int) (to3 : Int) (widths9 : List Int) (cs10 : List Int) (n11 : Int) (r12 : List Int × List Int) (cells13 : Int) (shown14 : Int) (k15 : Int) : Tr (Lap (Int × Int × List Int × List Int × Int × (List Int × List Int) × Int × Int × Int) (Int × Int × List Int × Int × (List Int × List Int) × Int × Int)) :=
  .br (decide (k15 < to3)) (
    .bnd (idx widths9 k15) fun x_6 =>
    .bnd (idx cs10 k15) fun x_7 =>
    .br (x_7 != 9) (
      .pure (.next (from2, to3, widths9, cs10, n11, r12, IntKind.i64.wrap (cells13 + x_6), IntKind.i64.wrap (cells13 + x_6), IntKind.i64.wrap (k15 + 1)))) (
      .pure (.next (from2, to3, widths9, cs10, n11, r12, IntKind.i64.wrap (cells13 + x_6), shown14, IntKind.i64.wrap (k15 + 1))))) (
    .pure (.done (from2, to3, widths9, n11, r12, cells13, shown14)))
noncomputable def law22_MeasureCells_T (ws0 : List Int) (ns1 : List Int) (from2 : Int) (to3 : Int) : Tr Bool :=
  .bnd law22_awake_F fun c_1 =>
  .br (!c_1) (
    .pure false) (
    .bnd (law22_Widths_F ws0) fun c_2 =>
    .bnd (law19_Classes_F ns1) fun c_3 =>
    .bnd (measure_Of_F c_2 c_3) fun c_4 =>
    .bnd (measure_Ruler_Count_F c_4) fun c_5 =>
    .br (c_5 != (if (c_3.length : Int) < (c_2.length : Int) then (c_3.length : Int) else (c_2.length : Int))) (
      .pure false) (
      .br (decide (from2 ≥ 0)) (
        .br (decide (from2 ≤ to3)) (
          .br (decide (to3 ≤ (if (c_3.length : Int) < (c_2.length : Int) then (c_3.length : Int) else (c_2.length : Int)))) (
            .bnd (loopW (fun s => (law22_MeasureCells_L11 s.1 s.2.1 s.2.2.1 s.2.2.2.1 s.2.2.2.2.1 s.2.2.2.2.2.1 s.2.2.2.2.2.2.1 s.2.2.2.2.2.2.2.1 s.2.2.2.2.2.2.2.2).run) (from2, to3, c_2, c_3, if (c_3.length : Int) < (c_2.length : Int) then (c_3.length : Int) else (c_2.length : Int), c_4, 0, 0, from2)) fun l_8 =>
            .bnd (Tr.run (
    .br (l_8.2.1 == l_8.2.2.2.1) (
      .pure (l_8.1, l_8.2.1, l_8.2.2.2.2.1, l_8.2.2.2.2.2.1, l_8.2.2.2.2.2.2, true)) (
      .br (decide (l_8.2.1 ≥ 0)) (
        .br (decide (l_8.2.1 < l_8.2.2.2.1)) (
          .bnd (idx l_8.2.2.1 l_8.2.1) fun x_9 =>
          .pure (l_8.1, l_8.2.1, l_8.2.2.2.2.1, l_8.2.2.2.2.2.1, l_8.2.2.2.2.2.2, x_9 != 0)) (
          .pure (l_8.1, l_8.2.1, l_8.2.2.2.2.1, l_8.2.2.2.2.2.1, l_8.2.2.2.2.2.2, false))) (
        .pure (l_8.1, l_8.2.1, l_8.2.2.2.2.1, l_8.2.2.2.2.2.1, l_8.2.2.2.2.2.2, false))) : Tr (Int × Int × (List Int × List Int) × Int × Int × Bool))) fun j_10 =>
            .bnd (Tr.run (
    .bnd (measure_Ruler_Cells_F j_10.2.2.1 j_10.1 j_10.2.1) fun c_11 =>
    .br (c_11 == j_10.2.2.2.1) (
      .bnd (measure_Ruler_Shown_F j_10.2.2.1 j_10.1 j_10.2.1) fun c_12 =>
      .br (c_12 == j_10.2.2.2.2.1) (
        .bnd (measure_Ruler_Whole_F j_10.2.2.1 j_10.2.1) fun c_13 =>
        .pure (c_13 == j_10.2.2.2.2.2)) (
        .pure false)) (
      .pure false) : Tr Bool)) fun j_14 =>
            .pure j_14) (
            .bnd (Tr.run (
    .br (to3 == (if (c_3.length : Int) < (c_2.length : Int) then (c_3.length : Int) else (c_2.length : Int))) (
      .pure (from2, to3, c_4, 0, 0, true)) (
      .br (decide (to3 ≥ 0)) (
        .br (decide (to3 < (if (c_3.length : Int) < (c_2.length : Int) then (c_3.length : Int) else (c_2.length : Int)))) (
          .bnd (idx c_2 to3) fun x_15 =>
          .pure (from2, to3, c_4, 0, 0, x_15 != 0)) (
          .pure (from2, to3, c_4, 0, 0, false))) (
        .pure (from2, to3, c_4, 0, 0, false))) : Tr (Int × Int × (List Int × List Int) × Int × Int × Bool))) fun j_16 =>
            .bnd (Tr.run (
    .bnd (measure_Ruler_Cells_F j_16.2.2.1 j_16.1 j_16.2.1) fun c_17 =>
    .br (c_17 == j_16.2.2.2.1) (
      .bnd (measure_Ruler_Shown_F j_16.2.2.1 j_16.1 j_16.2.1) fun c_18 =>
      .br (c_18 == j_16.2.2.2.2.1) (
        .bnd (measure_Ruler_Whole_F j_16.2.2.1 j_16.2.1) fun c_19 =>
        .pure (c_19 == j_16.2.2.2.2.2)) (
        .pure false)) (
      .pure false) : Tr Bool)) fun j_20 =>
            .pure j_20)) (
          .bnd (Tr.run (
    .br (to3 == (if (c_3.length : Int) < (c_2.length : Int) then (c_3.length : Int) else (c_2.length : Int))) (
      .pure (from2, to3, c_4, 0, 0, true)) (
      .br (decide (to3 ≥ 0)) (
        .br (decide (to3 < (if (c_3.length : Int) < (c_2.length : Int) then (c_3.length : Int) else (c_2.length : Int)))) (
          .bnd (idx c_2 to3) fun x_21 =>
          .pure (from2, to3, c_4, 0, 0, x_21 != 0)) (
          .pure (from2, to3, c_4, 0, 0, false))) (
        .pure (from2, to3, c_4, 0, 0, false))) : Tr (Int × Int × (List Int × List Int) × Int × Int × Bool))) fun j_22 =>
          .bnd (Tr.run (
    .bnd (measure_Ruler_Cells_F j_22.2.2.1 j_22.1 j_22.2.1) fun c_23 =>
    .br (c_23 == j_22.2.2.2.1) (
      .bnd (measure_Ruler_Shown_F j_22.2.2.1 j_22.1 j_22.2.1) fun c_24 =>
      .br (c_24 == j_22.2.2.2.2.1) (
        .bnd (measure_Ruler_Whole_F j_22.2.2.1 j_22.2.1) fun c_25 =>
        .pure (c_25 == j_22.2.2.2.2.2)) (
        .pure false)) (
      .pure false) : Tr Bool)) fun j_26 =>
          .pure j_26)) (
        .bnd (Tr.run (
    .br (to3 == (if (c_3.length : Int) < (c_2.length : Int) then (c_3.length : Int) else (c_2.length : Int))) (
      .pure (from2, to3, c_4, 0, 0, true)) (
      .br (decide (to3 ≥ 0)) (
        .br (decide (to3 < (if (c_3.length : Int) < (c_2.length : Int) then (c_3.length : Int) else (c_2.length : Int)))) (
          .bnd (idx c_2 to3) fun x_27 =>
          .pure (from2, to3, c_4, 0, 0, x_27 != 0)) (
          .pure (from2, to3, c_4, 0, 0, false))) (
        .pure (from2, to3, c_4, 0, 0, false))) : Tr (Int × Int × (List Int × List Int) × Int × Int × Bool))) fun j_28 =>
        .bnd (Tr.run (
    .bnd (measure_Ruler_Cells_F j_28.2.2.1 j_28.1 j_28.2.1) fun c_29 =>
    .br (c_29 == j_28.2.2.2.1) (
      .bnd (measure_Ruler_Shown_F j_28.2.2.1 j_28.1 j_28.2.1) fun c_30 =>
      .br (c_30 == j_28.2.2.2.2.1) (
        .bnd (measure_Ruler_Whole_F j_28.2.2.1 j_28.2.1) fun c_31 =>
        .pure (c_31 == j_28.2.2.2.2.2)) (
        .pure false)) (
      .pure false) : Tr Bool)) fun j_32 =>
        .pure j_32)))
noncomputable def law22_MeasureCells_F (ws0 : List Int) (ns1 : List Int) (from2 : Int) (to3 : Int) : Option Bool := (law22_MeasureCells_T ws0 ns1 from2 to3).run
def law22_MeasureCells_L : List (Nat × LoopAnn) := [(11, { head := [.sv 2 false (.int .i64), .sv 3 false (.int .i64), .srow 9 1000009 3 true (.int .i64), .srow 10 1000010 31 true (.int .u8), .sv 11 true (.int .i64), .sv 12 true (.ptr (.st (.pair (.sl (.int .i64)) (.sl (.int .i64))))), .sv 13 true (.int .i64), .sv 14 true (.int .i64), .sv 15 false (.int .i64)], xid := 0, out := [.sv 2 false (.int .i64), .sv 3 false (.int .i64), .srow 9 1000009 3 true (.int .i64), .sv 11 true (.int .i64), .sv 12 true (.ptr (.st (.pair (.sl (.int .i64)) (.sl (.int .i64))))), .sv 13 true (.int .i64), .sv 14 true (.int .i64)], hasRet := false, res := [] })]
noncomputable def law22_MeasureCells_C : List (Nat × Callee) := [(10, .plain law22_awake_fun), (11, .plain law22_Widths_fun), (12, .plain law19_Classes_fun), (13, .plain measure_Of_fun), (14, .plain measure_Ruler_Count_fun), (15, .plain measure_Ruler_Cells_fun), (16, .plain measure_Ruler_Shown_fun), (17, .plain measure_Ruler_Whole_fun)]
noncomputable def law22_MeasureCells_fun : Fun := ⟨[.sl (.int .u8), .sl (.int .u8), .int .i64, .int .i64], [.v .bool], fun x => law22_MeasureCells_F x.1 x.2.1 x.2.2.1 x.2.2.2.1⟩
theorem law22_MeasureCells_ev (x : Tys.I [.sl (.int .u8), .sl (.int .u8), .int .i64, .int .i64]) : evFun G0 (fun f => olook f law22_MeasureCells_C) ⟨[], [], [], [], [(16, [(19, [.sv 2 false (.int .i64), .sv 3 false (.int .i64), .sv 12 true (.ptr (.st (.pair (.sl (.int .i64)) (.sl (.int .i64))))), .sv 13 true (.int .i64), .sv 14 true (.int .i64), .sv 83 true .bool])]), (17, [(21, [.sv 104 true .bool])])], []⟩ (fun i => olook i law22_MeasureCells_L) Try.f3 [.sl (.int .u8), .sl (.int .u8), .int .i64, .int .i64] [.v .bool] x = law22_MeasureCells_T x.1 x.2.1 x.2.2.1 x.2.2.2.1 := by kernel_rfl
theorem law22_MeasureCells_ok : FunOk Try.prog 3 law22_MeasureCells_fun := evFun_ok mixed ctx0 (cons_calls (fb := .plain law22_awake_fun) law22_awake_ok (fun h => by cases h) (cons_calls (fb := .plain law22_Widths_fun) law22_Widths_ok (fun h => by cases h) (cons_calls (fb := .plain law19_Classes_fun) law19_Classes_ok (fun h => by cases h) (cons_calls (fb := .plain measure_Of_fun) measure_Of_ok (fun h => by cases h) (cons_calls (fb := .plain measure_Ruler_Count_fun) measure_Ruler_Count_ok (fun h => by cases h) (cons_calls (fb := .plain measure_Ruler_Cells_fun) measure_Ruler_Cells_ok (fun h => by cases h) (cons_calls (fb := .plain measure_Ruler_Shown_fun) measure_Ruler_Shown_ok (fun h => by cases h) (cons_calls (fb := .plain measure_Ruler_Whole_fun) measure_Ruler_Whole_ok (fun h => by cases h) (no_calls))))))))) Try.func3 (by kernel_rfl) _ (fun x => congrArg Tr.run (law22_MeasureCells_ev x)) (by kernel_rfl) (by kernel_rfl)
/-! ### boustrophedon/boustrophedonlaw22.MeasureParts -/
noncomputable def law22_MeasureParts_T (ws0 : List Int) (ns1 : List Int) (a2 : Int) (b3 : Int) (c4 : Int) : Tr Bool :=
  .bnd law22_awake_F fun c_1 =>
  .br (!c_1) (
    .pure false) (
    .bnd (law22_Widths_F ws0) fun c_2 =>
    .bnd (law19_Classes_F ns1) fun c_3 =>
    .bnd (measure_Of_F c_2 c_3) fun c_4 =>
    .bnd (measure_Ruler_Count_F c_4) fun c_5 =>
    .br ((IntKind.i64.wrap (c_5 + 1)) != 0) (
      .br ((IntKind.i64.wrap ((IntKind.i64.wrap (c_5 + 1)) - ((IntKind.i64.wrap a2).tmod (IntKind.i64.wrap (c_5 + 1))))) != 0) (
        .br ((IntKind.i64.wrap ((IntKind.i64.wrap (c_5 + 1)) - (IntKind.i64.wrap (((IntKind.i64.wrap a2).tmod (IntKind.i64.wrap (c_5 + 1))) + ((IntKind.i64.wrap b3).tmod (IntKind.i64.wrap ((IntKind.i64.wrap (c_5 + 1)) - ((IntKind.i64.wrap a2).tmod (IntKind.i64.wrap (c_5 + 1)))))))))) != 0) (
          .bnd (measure_Ruler_Cells_F c_4 ((IntKind.i64.wrap a2).tmod (IntKind.i64.wrap (c_5 + 1))) (IntKind.i64.wrap (((IntKind.i64.wrap a2).tmod (IntKind.i64.wrap (c_5 + 1))) + ((IntKind.i64.wrap b3).tmod (IntKind.i64.wrap ((IntKind.i64.wrap (c_5 + 1)) - ((IntKind.i64.wrap a2).tmod (IntKind.i64.wrap (c_5 + 1))))))))) fun c_6 =>
          .bnd (measure_Ruler_Cells_F c_4 (IntKind.i64.wrap (((IntKind.i64.wrap a2).tmod (IntKind.i64.wrap (c_5 + 1))) + ((IntKind.i64.wrap b3).tmod (IntKind.i64.wrap ((IntKind.i64.wrap (c_5 + 1)) - ((IntKind.i64.wrap a2).tmod (IntKind.i64.wrap (c_5 + 1)))))))) (IntKind.i64.wrap ((IntKind.i64.wrap (((IntKind.i64.wrap a2).tmod (IntKind.i64.wrap (c_5 + 1))) + ((IntKind.i64.wrap b3).tmod (IntKind.i64.wrap ((IntKind.i64.wrap (c_5 + 1)) - ((IntKind.i64.wrap a2).tmod (IntKind.i64.wrap (c_5 + 1)))))))) + ((IntKind.i64.wrap c4).tmod (IntKind.i64.wrap ((IntKind.i64.wrap (c_5 + 1)) - (IntKind.i64.wrap (((IntKind.i64.wrap a2).tmod (IntKind.i64.wrap (c_5 + 1))) + ((IntKind.i64.wrap b3).tmod (IntKind.i64.wrap ((IntKind.i64.wrap (c_5 + 1)) - ((IntKind.i64.wrap a2).tmod (IntKind.i64.wrap (c_5 + 1)))))))))))))) fun c_7 =>
          .bnd (measure_Ruler_Cells_F c_4 ((IntKind.i64.wrap a2).tmod (IntKind.i64.wrap (c_5 + 1))) (IntKind.i64.wrap ((IntKind.i64.wrap (((IntKind.i64.wrap a2).tmod (IntKind.i64.wrap (c_5 + 1))) + ((IntKind.i64.wrap b3).tmod (IntKind.i64.wrap ((IntKind.i64.wrap (c_5 + 1)) - ((IntKind.i64.wrap a2).tmod (IntKind.i64.wrap (c_5 + 1)))))))) + ((IntKind.i64.wrap c4).tmod (IntKind.i64.wrap ((IntKind.i64.wrap (c_5 + 1)) - (IntKind.i64.wrap (((IntKind.i64.wrap a2).tmod (IntKind.i64.wrap (c_5 + 1))) + ((IntKind.i64.wrap b3).tmod (IntKind.i64.wrap ((IntKind.i64.wrap (c_5 + 1)) - ((IntKind.i64.wrap a2).tmod (IntKind.i64.wrap (c_5 + 1)))))))))))))) fun c_8 =>
          .br ((IntKind.i64.wrap (c_6 + c_7)) == c_8) (
            .bnd (measure_Ruler_Shown_F c_4 ((IntKind.i64.wrap a2).tmod (IntKind.i64.wrap (c_5 + 1))) (IntKind.i64.wrap (((IntKind.i64.wrap a2).tmod (IntKind.i64.wrap (c_5 + 1))) + ((IntKind.i64.wrap b3).tmod (IntKind.i64.wrap ((IntKind.i64.wrap (c_5 + 1)) - ((IntKind.i64.wrap a2).tmod (IntKind.i64.wrap (c_5 + 1))))))))) fun c_9 =>
            .bnd (measure_Ruler_Cells_F c_4 ((IntKind.i64.wrap a2).tmod (IntKind.i64.wrap (c_5 + 1))) (IntKind.i64.wrap (((IntKind.i64.wrap a2).tmod (IntKind.i64.wrap (c_5 + 1))) + ((IntKind.i64.wrap b3).tmod (IntKind.i64.wrap ((IntKind.i64.wrap (c_5 + 1)) - ((IntKind.i64.wrap a2).tmod (IntKind.i64.wrap (c_5 + 1))))))))) fun c_10 =>
            .br (decide (c_9 ≤ c_10)) (
              .bnd (measure_Ruler_Shown_F c_4 ((IntKind.i64.wrap a2).tmod (IntKind.i64.wrap (c_5 + 1))) (IntKind.i64.wrap (((IntKind.i64.wrap a2).tmod (IntKind.i64.wrap (c_5 + 1))) + ((IntKind.i64.wrap b3).tmod (IntKind.i64.wrap ((IntKind.i64.wrap (c_5 + 1)) - ((IntKind.i64.wrap a2).tmod (IntKind.i64.wrap (c_5 + 1))))))))) fun c_11 =>
              .bnd (measure_Ruler_Shown_F c_4 ((IntKind.i64.wrap a2).tmod (IntKind.i64.wrap (c_5 + 1))) (IntKind.i64.wrap ((IntKind.i64.wrap (((IntKind.i64.wrap a2).tmod (IntKind.i64.wrap (c_5 + 1))) + ((IntKind.i64.wrap b3).tmod (IntKind.i64.wrap ((IntKind.i64.wrap (c_5 + 1)) - ((IntKind.i64.wrap a2).tmod (IntKind.i64.wrap (c_5 + 1)))))))) + ((IntKind.i64.wrap c4).tmod (IntKind.i64.wrap ((IntKind.i64.wrap (c_5 + 1)) - (IntKind.i64.wrap (((IntKind.i64.wrap a2).tmod (IntKind.i64.wrap (c_5 + 1))) + ((IntKind.i64.wrap b3).tmod (IntKind.i64.wrap ((IntKind.i64.wrap (c_5 + 1)) - ((IntKind.i64.wrap a2).tmod (IntKind.i64.wrap (c_5 + 1)))))))))))))) fun c_12 =>
              .br (decide (c_11 ≤ c_12)) (
                .bnd (measure_Ruler_Shown_F c_4 ((IntKind.i64.wrap a2).tmod (IntKind.i64.wrap (c_5 + 1))) ((IntKind.i64.wrap a2).tmod (IntKind.i64.wrap (c_5 + 1)))) fun c_13 =>
                .pure (c_13 == 0)) (
                .pure false)) (
              .pure false)) (
            .pure false)) (
          .fail)) (
        .fail)) (
      .fail))
noncomputable def law22_MeasureParts_F (ws0 : List Int) (ns1 : List Int) (a2 : Int) (b3 : Int) (c4 : Int) : Option Bool := (law22_MeasureParts_T ws0 ns1 a2 b3 c4).run
def law22_MeasureParts_L : List (Nat × LoopAnn) := []
noncomputable def law22_MeasureParts_C : List (Nat × Callee) := [(10, .plain law22_awake_fun), (11, .plain law22_Widths_fun), (12, .plain law19_Classes_fun), (13, .plain measure_Of_fun), (14, .plain measure_Ruler_Count_fun), (15, .plain measure_Ruler_Cells_fun), (16, .plain measure_Ruler_Shown_fun)]
noncomputable def law22_MeasureParts_fun : Fun := ⟨[.sl (.int .u8), .sl (.int .u8), .int .u8, .int .u8, .int .u8], [.v .bool], fun x => law22_MeasureParts_F x.1 x.2.1 x.2.2.1 x.2.2.2.1 x.2.2.2.2.1⟩
theorem law22_MeasureParts_ev (x : Tys.I [.sl (.int .u8), .sl (.int .u8), .int .u8, .int .u8, .int .u8]) : evFun G0 (fun f => olook f law22_MeasureParts_C) ⟨[], [], [], [], [], []⟩ (fun i => olook i law22_MeasureParts_L) Try.f4 [.sl (.int .u8), .sl (.int .u8), .int .u8, .int .u8, .int .u8] [.v .bool] x = law22_MeasureParts_T x.1 x.2.1 x.2.2.1 x.2.2.2.1 x.2.2.2.2.1 := by kernel_rfl
theorem law22_MeasureParts_ok : FunOk Try.prog 4 law22_MeasureParts_fun := evFun_ok mixed ctx0 (cons_calls (fb := .plain law22_awake_fun) law22_awake_ok (fun h => by cases h) (cons_calls (fb := .plain law22_Widths_fun) law22_Widths_ok (fun h => by cases h) (cons_calls (fb := .plain law19_Classes_fun) law19_Classes_ok (fun h => by cases h) (cons_calls (fb := .plain measure_Of_fun) measure_Of_ok (fun h => by cases h) (cons_calls (fb := .plain measure_Ruler_Count_fun) measure_Ruler_Count_ok (fun h => by cases h) (cons_calls (fb := .plain measure_Ruler_Cells_fun) measure_Ruler_Cells_ok (fun h => by cases h) (cons_calls (fb := .plain measure_Ruler_Shown_fun) measure_Ruler_Shown_ok (fun h => by cases h) (no_calls)))))))) Try.func4 (by kernel_rfl) _ (fun x => congrArg Tr.run (law22_MeasureParts_ev x)) (by kernel_rfl) (by kernel_rfl)
/-! ### boustrophedon/boustrophedonlaw22.MeasureSpaces -/
noncomputable def law22_MeasureSpaces_L8 (more2 : Int) (widths7 : List Int) (cs8 : List Int) (n9 : Int) (a10 : List Int × List Int) (k11 : Int) : Tr (Lap (Int × List Int × List Int × Int × (List Int × List Int) × Int) (List Int × List Int × Int × List Int × List Int)) :=
  .br (decide (k11 < (IntKind.i64.wrap (more2.tmod 9)))) (
    .bnd (app 17592186044416 widths7 ([IntKind.i64.wrap (1 + (k11.tmod 2))])) fun r_7 =>
    .bnd (app 140737488355328 cs8 ([9])) fun r_8 =>
    .pure (.next (more2, r_7, r_8, n9, a10, IntKind.i64.wrap (k11 + 1)))) (
    .pure (.done (widths7, cs8, n9, a10)))
noncomputable def law22_MeasureSpaces_T (ws0 : List Int) (ns1 : List Int) (more2 : Int) : Tr Bool :=
  .bnd law22_awake_F fun c_1 =>
  .br (!c_1) (
    .pure false) (
    .bnd (law22_Widths_F ws0) fun c_2 =>
    .bnd (law19_Classes_F ns1) fun c_3 =>
    .bnd (cut c_2 0 (if (c_3.length : Int) < (c_2.length : Int) then (c_3.length : Int) else (c_2.length : Int))) fun r_4 =>
    .bnd (cut c_3 0 (if (c_3.length : Int) < (c_2.length : Int) then (c_3.length : Int) else (c_2.length : Int))) fun r_5 =>
    .bnd (measure_Of_F r_4 r_5) fun c_6 =>
    .bnd (loopW (fun s => (law22_MeasureSpaces_L8 s.1 s.2.1 s.2.2.1 s.2.2.2.1 s.2.2.2.2.1 s.2.2.2.2.2).run) (more2, r_4, r_5, if (c_3.length : Int) < (c_2.length : Int) then (c_3.length : Int) else (c_2.length : Int), c_6, 0)) fun l_9 =>
    .bnd (measure_Of_F l_9.1 l_9.2.1) fun c_10 =>
    .bnd (measure_Ruler_Count_F c_10) fun c_11 =>
    .br (c_11 == (l_9.2.1.length : Int)) (
      .bnd (measure_Ruler_Shown_F c_10 0 (l_9.2.1.length : Int)) fun c_12 =>
      .bnd (measure_Ruler_Shown_F l_9.2.2.2 0 l_9.2.2.1) fun c_13 =>
      .br (c_12 == c_13) (
        .bnd (measure_Ruler_Cells_F c_10 0 l_9.2.2.1) fun c_14 =>
        .bnd (measure_Ruler_Cells_F l_9.2.2.2 0 l_9.2.2.1) fun c_15 =>
        .br (c_14 == c_15) (
          .bnd (measure_Ruler_Whole_F l_9.2.2.2 l_9.2.2.1) fun c_16 =>
          .br c_16 (
            .bnd (measure_Ruler_Whole_F c_10 (l_9.2.1.length : Int)) fun c_17 =>
            .pure c_17) (
            .pure false)) (
          .pure false)) (
        .pure false)) (
      .pure false))
noncomputable def law22_MeasureSpaces_F (ws0 : List Int) (ns1 : List Int) (more2 : Int) : Option Bool := (law22_MeasureSpaces_T ws0 ns1 more2).run
def law22_MeasureSpaces_L : List (Nat × LoopAnn) := [(8, { head := [.sv 2 false (.int .u8), .srow 7 1000007 3 true (.int .i64), .srow 8 1000008 31 true (.int .u8), .sv 9 true (.int .i64), .sv 10 true (.ptr (.st (.pair (.sl (.int .i64)) (.sl (.int .i64))))), .sv 11 true (.int .i64)], xid := 0, out := [.srow 7 1000007 3 true (.int .i64), .srow 8 1000008 31 true (.int .u8), .sv 9 true (.int .i64), .sv 10 true (.ptr (.st (.pair (.sl (.int .i64)) (.sl (.int .i64)))))], hasRet := false, res := [] })]
noncomputable def law22_MeasureSpaces_C : List (Nat × Callee) := [(10, .plain law22_awake_fun), (11, .plain law22_Widths_fun), (12, .plain law19_Classes_fun), (13, .plain measure_Of_fun), (14, .plain measure_Ruler_Count_fun), (16, .plain measure_Ruler_Shown_fun), (15, .plain measure_Ruler_Cells_fun), (17, .plain measure_Ruler_Whole_fun)]
noncomputable def law22_MeasureSpaces_fun : Fun := ⟨[.sl (.int .u8), .sl (.int .u8), .int .u8], [.v .bool], fun x => law22_MeasureSpaces_F x.1 x.2.1 x.2.2.1⟩
theorem law22_MeasureSpaces_ev (x : Tys.I [.sl (.int .u8), .sl (.int .u8), .int .u8]) : evFun G0 (fun f => olook f law22_MeasureSpaces_C) ⟨[26, 29], [], [], [], [], []⟩ (fun i => olook i law22_MeasureSpaces_L) Try.f5 [.sl (.int .u8), .sl (.int .u8), .int .u8] [.v .bool] x = law22_MeasureSpaces_T x.1 x.2.1 x.2.2.1 := by kernel_rfl
theorem law22_MeasureSpaces_ok : FunOk Try.prog 5 law22_MeasureSpaces_fun := evFun_ok mixed ctx0 (cons_calls (fb := .plain law22_awake_fun) law22_awake_ok (fun h => by cases h) (cons_calls (fb := .plain law22_Widths_fun) law22_Widths_ok (fun h => by cases h) (cons_calls (fb := .plain law19_Classes_fun) law19_Classes_ok (fun h => by cases h) (cons_calls (fb := .plain measure_Of_fun) measure_Of_ok (fun h => by cases h) (cons_calls (fb := .plain measure_Ruler_Count_fun) measure_Ruler_Count_ok (fun h => by cases h) (cons_calls (fb := .plain measure_Ruler_Shown_fun) measure_Ruler_Shown_ok (fun h => by cases h) (cons_calls (fb := .plain measure_Ruler_Cells_fun) measure_Ruler_Cells_ok (fun h => by cases h) (cons_calls (fb := .plain measure_Ruler_Whole_fun) measure_Ruler_Whole_ok (fun h => by cases h) (no_calls))))))))) Try.func5 (by kernel_rfl) _ (fun x => congrArg Tr.run (law22_MeasureSpaces_ev x)) (by kernel_rfl) (by kernel_rfl)
end Go.Proofs.Ytafomgonecamlaa
