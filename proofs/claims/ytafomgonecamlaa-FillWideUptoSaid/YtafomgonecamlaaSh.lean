/-
  The plain readings of the functions of this seat, by program; each is tied to the loaded function.
-/
import Derived.Test.YtafomgonecamlaaEvErr
import Derived.Test.YtafomgonecamlaaChecked
namespace Go.Proofs.Ytafomgonecamlaa
set_option maxRecDepth 100000
set_option linter.unusedVariables false

def G0 : Ctx := { ty := [(3, .int .i64), (4, .bool), (5, .int .u8), (22, .sl (.int .u8)), (24, .sl (.int .i64)), (26, .sl (.int .u8)), (28, .ptr (.st (.pair (.sl (.int .i64)) (.sl (.int .i64))))), (31, .int .u8), (37, .sl (.int .i64)), (39, .sl (.st (.pair (.int .i64) (.pair (.int .i64) (.pair .bool .bool))))), (41, .err 55 54), (45, .st (.pair (.int .i64) (.pair (.int .i64) (.pair .bool .bool)))), (47, .int .i64), (51, .st (.pair (.sl (.int .i64)) (.sl (.int .i64))))], sls := [(22, ⟨5, .int .u8, 140737488355328⟩), (24, ⟨3, .int .i64, 17592186044416⟩), (26, ⟨31, .int .u8, 140737488355328⟩), (37, ⟨47, .int .i64, 17592186044416⟩), (39, ⟨45, .st (.pair (.int .i64) (.pair (.int .i64) (.pair .bool .bool))), 5864062014805⟩)], eqs := [(45, .pair (.int .i64) (.pair (.int .i64) (.pair .bool .bool)))], enos := [54] }
theorem mixed : Try.prog.follows .mixedOrders = true := by kernel_rfl
theorem ctx0 : CtxOk Try.prog G0 := ctx_ok (by kernel_rfl)
theorem no_calls {Λ : List Nat} : ∀ f fa, olook f ([] : List (Nat × Callee)) = some fa → CalleeOk Try.prog f fa ∧ (fa.isPlain = false → inList f Λ = true) := fun _ _ h => by cases h
theorem cons_calls {Λ : List Nat} {k : Nat} {fb : Callee} {l : List (Nat × Callee)} (h : CalleeOk Try.prog k fb) (hi : fb.isPlain = false → inList k Λ = true) (hl : ∀ f fa, olook f l = some fa → CalleeOk Try.prog f fa ∧ (fa.isPlain = false → inList f Λ = true)) : ∀ f fa, olook f ((k, fb) :: l) = some fa → CalleeOk Try.prog f fa ∧ (fa.isPlain = false → inList f Λ = true) := by
  intro f fa hf
  rw [olook_cons] at hf
  split at hf
  · rename_i e; subst e; cases hf; exact ⟨h, hi⟩
  · exact hl f fa hf

/-! ### boustrophedon/boustrophedonlaw22.Widths -/
noncomputable def law22_Widths_L3 (ns0 : List Int) (out3 : List Int) (k4 : Int) : Tr (Lap (List Int × List Int × Int) (List Int)) :=
  .br (decide (k4 < (ns0.length : Int))) (
    .bnd (idx ns0 k4) fun x_1 =>
    .bnd (app 17592186044416 out3 ([IntKind.i64.wrap (x_1.tmod 3)])) fun r_2 =>
    .pure (.next (ns0, r_2, IntKind.i64.wrap (k4 + 1)))) (
    .pure (.done out3))
noncomputable def law22_Widths_T (ns0 : List Int) : Tr (List Int) :=
  .bnd (loopW (fun s => (law22_Widths_L3 s.1 s.2.1 s.2.2).run) (ns0, [], 0)) fun l_3 =>
  .pure l_3
noncomputable def law22_Widths_F (ns0 : List Int) : Option (List Int) := (law22_Widths_T ns0).run
def law22_Widths_L : List (Nat × LoopAnn) := [(3, { head := [.sv 0 false (.sl (.int .u8)), .srow 3 1000003 3 true (.int .i64), .sv 4 true (.int .i64)], xid := 0, out := [.srow 3 1000003 3 true (.int .i64)], hasRet := false, res := [] })]
noncomputable def law22_Widths_C : List (Nat × Callee) := []
noncomputable def law22_Widths_fun : Fun := ⟨[.sl (.int .u8)], [.row 3 (.int .i64)], fun x => law22_Widths_F x.1⟩
theorem law22_Widths_ev (x : Tys.I [.sl (.int .u8)]) : evFun G0 (fun f => olook f law22_Widths_C) ⟨[], [], [], [], [], []⟩ (fun i => olook i law22_Widths_L) Try.f11 [.sl (.int .u8)] [.row 3 (.int .i64)] x = law22_Widths_T x.1 := by kernel_rfl
theorem law22_Widths_ok : FunOk Try.prog 11 law22_Widths_fun := evFun_ok mixed ctx0 (no_calls) Try.func11 (by kernel_rfl) _ (fun x => congrArg Tr.run (law22_Widths_ev x)) (by kernel_rfl) (by kernel_rfl)
/-! ### boustrophedon/boustrophedonlaw19.Classes -/
noncomputable def law19_Classes_L3 (ns0 : List Int) (out3 : List Int) (k4 : Int) : Tr (Lap (List Int × List Int × Int) (List Int)) :=
  .br (decide (k4 < (ns0.length : Int))) (
    .bnd (idx ns0 k4) fun x_1 =>
    .bnd (app 140737488355328 out3 ([x_1.tmod 43])) fun r_2 =>
    .pure (.next (ns0, r_2, IntKind.i64.wrap (k4 + 1)))) (
    .pure (.done out3))
noncomputable def law19_Classes_T (ns0 : List Int) : Tr (List Int) :=
  .bnd (loopW (fun s => (law19_Classes_L3 s.1 s.2.1 s.2.2).run) (ns0, [], 0)) fun l_3 =>
  .pure l_3
noncomputable def law19_Classes_F (ns0 : List Int) : Option (List Int) := (law19_Classes_T ns0).run
def law19_Classes_L : List (Nat × LoopAnn) := [(3, { head := [.sv 0 false (.sl (.int .u8)), .srow 3 1000003 31 true (.int .u8), .sv 4 true (.int .i64)], xid := 0, out := [.srow 3 1000003 31 true (.int .u8)], hasRet := false, res := [] })]
noncomputable def law19_Classes_C : List (Nat × Callee) := []
noncomputable def law19_Classes_fun : Fun := ⟨[.sl (.int .u8)], [.row 31 (.int .u8)], fun x => law19_Classes_F x.1⟩
theorem law19_Classes_ev (x : Tys.I [.sl (.int .u8)]) : evFun G0 (fun f => olook f law19_Classes_C) ⟨[], [], [], [], [], []⟩ (fun i => olook i law19_Classes_L) Try.f12 [.sl (.int .u8)] [.row 31 (.int .u8)] x = law19_Classes_T x.1 := by kernel_rfl
theorem law19_Classes_ok : FunOk Try.prog 12 law19_Classes_fun := evFun_ok mixed ctx0 (no_calls) Try.func12 (by kernel_rfl) _ (fun x => congrArg Tr.run (law19_Classes_ev x)) (by kernel_rfl) (by kernel_rfl)
/-! ### boustrophedon/measure.Of -/
noncomputable def measure_Of_L4 (widths0 : List Int) (cs1 : List Int) (r5 : List Int × List Int) (sum6 : Int) (solid7 : Int) (t15 : Int) (t16 : Int) : Tr (Lap (List Int × List Int × (List Int × List Int) × Int × Int × Int × Int) (List Int × List Int)) :=
  .br (decide (t16 < t15)) (
    .bnd (idx widths0 t16) fun x_1 =>
    .bnd (idx cs1 t16) fun x_2 =>
    .br (x_2 != 9) (
      .bnd (app 17592186044416 r5.1 ([IntKind.i64.wrap (sum6 + x_1)])) fun r_3 =>
      .bnd (app 17592186044416 r5.2 ([IntKind.i64.wrap (t16 + 1)])) fun r_4 =>
      .pure (.next (widths0, cs1, (r_3, r_4), IntKind.i64.wrap (sum6 + x_1), IntKind.i64.wrap (t16 + 1), t15, IntKind.i64.wrap (t16 + 1)))) (
      .bnd (app 17592186044416 r5.1 ([IntKind.i64.wrap (sum6 + x_1)])) fun r_5 =>
      .bnd (app 17592186044416 r5.2 ([solid7])) fun r_6 =>
      .pure (.next (widths0, cs1, (r_5, r_6), IntKind.i64.wrap (sum6 + x_1), solid7, t15, IntKind.i64.wrap (t16 + 1))))) (
    .pure (.done (r5.1, r5.2)))
noncomputable def measure_Of_T (widths0 : List Int) (cs1 : List Int) : Tr (List Int × List Int) :=
  .bnd (loopW (fun s => (measure_Of_L4 s.1 s.2.1 s.2.2.1 s.2.2.2.1 s.2.2.2.2.1 s.2.2.2.2.2.1 s.2.2.2.2.2.2).run) (widths0, cs1, ([], []), 0, 0, if (cs1.length : Int) < (widths0.length : Int) then (cs1.length : Int) else (widths0.length : Int), 0)) fun l_7 =>
  .pure (l_7.1, l_7.2)
noncomputable def measure_Of_F (widths0 : List Int) (cs1 : List Int) : Option (List Int × List Int) := (measure_Of_T widths0 cs1).run
def measure_Of_L : List (Nat × LoopAnn) := [(4, { head := [.sv 0 false (.sl (.int .i64)), .sv 1 false (.sl (.int .u8)), .sboxh 5 1000005 51 (.st (.pair (.sl (.int .i64)) (.sl (.int .i64)))) [(0, 3), (1, 3)], .sv 6 true (.int .i64), .sv 7 true (.int .i64), .sv 15 true (.int .i64), .sv 16 true (.int .i64)], xid := 0, out := [.sboxh 5 1000005 51 (.st (.pair (.sl (.int .i64)) (.sl (.int .i64)))) [(0, 3), (1, 3)]], hasRet := false, res := [] })]
noncomputable def measure_Of_C : List (Nat × Callee) := []
noncomputable def measure_Of_fun : Fun := ⟨[.sl (.int .i64), .sl (.int .u8)], [.v (.ptr (.st (.pair (.sl (.int .i64)) (.sl (.int .i64)))))], fun x => measure_Of_F x.1 x.2.1⟩
theorem measure_Of_ev (x : Tys.I [.sl (.int .i64), .sl (.int .u8)]) : evFunP G0 (fun f => olook f measure_Of_C) ⟨[], [], [], [], [], [(9, [(0, 3), (1, 3)])]⟩ (fun i => olook i measure_Of_L) Try.f13 [.sl (.int .i64), .sl (.int .u8)] (.st (.pair (.sl (.int .i64)) (.sl (.int .i64)))) [(0, 3), (1, 3)] x = measure_Of_T x.1 x.2.1 := by kernel_rfl
theorem measure_Of_ok : FunOk Try.prog 13 measure_Of_fun := evFunP_ok mixed ctx0 (no_calls) Try.func13 (by kernel_rfl) _ (fun x => congrArg Tr.run (measure_Of_ev x)) (by kernel_rfl) (by kernel_rfl)
/-! ### (*boustrophedon/measure.Ruler).Count -/
noncomputable def measure_Ruler_Count_T (r0 : List Int × List Int) : Tr Int :=
  .pure (r0.1.length : Int)
noncomputable def measure_Ruler_Count_F (r0 : List Int × List Int) : Option Int := (measure_Ruler_Count_T r0).run
def measure_Ruler_Count_L : List (Nat × LoopAnn) := []
noncomputable def measure_Ruler_Count_C : List (Nat × Callee) := []
noncomputable def measure_Ruler_Count_fun : Fun := ⟨[.ptr (.st (.pair (.sl (.int .i64)) (.sl (.int .i64))))], [.v (.int .i64)], fun x => measure_Ruler_Count_F x.1⟩
theorem measure_Ruler_Count_ev (x : Tys.I [.ptr (.st (.pair (.sl (.int .i64)) (.sl (.int .i64))))]) : evFun G0 (fun f => olook f measure_Ruler_Count_C) ⟨[], [], [], [], [], []⟩ (fun i => olook i measure_Ruler_Count_L) Try.f14 [.ptr (.st (.pair (.sl (.int .i64)) (.sl (.int .i64))))] [.v (.int .i64)] x = measure_Ruler_Count_T x.1 := by kernel_rfl
theorem measure_Ruler_Count_ok : FunOk Try.prog 14 measure_Ruler_Count_fun := evFun_ok mixed ctx0 (no_calls) Try.func14 (by kernel_rfl) _ (fun x => congrArg Tr.run (measure_Ruler_Count_ev x)) (by kernel_rfl) (by kernel_rfl)
/-! ### boustrophedon/api.Wrap -/
noncomputable def api_Wrap_F (e : Int) (s : ByteArray) (n : Int) : Option (Option (Int × ByteArray × Int)) := some (some (e, s, n))
noncomputable def api_Wrap_fun : Fun := ⟨[.eno 54, .str, .int .i64], [.v (.err 55 54)], fun x => api_Wrap_F x.1 x.2.1 x.2.2.1⟩
theorem api_Wrap_ok : FunOk Try.prog 23 api_Wrap_fun := wrap_ok (tF := 57) ⟨_, _, Try.func23, by kernel_rfl, rfl⟩ (fun k n s w => by
  go_enter Try.func23, Try.ntmps23
  go_wp2
  go_ret
  exact ⟨rfl, rfl⟩)
/-! ### boustrophedon/measure.upTo -/
noncomputable def measure_upTo_T (known0 : List Int) (at1 : Int) : Tr Int :=
  .br (at1 == 0) (
    .pure 0) (
    .bnd (idx known0 (IntKind.i64.wrap (at1 - 1))) fun x_1 =>
    .pure x_1)
noncomputable def measure_upTo_F (known0 : List Int) (at1 : Int) : Option Int := (measure_upTo_T known0 at1).run
def measure_upTo_L : List (Nat × LoopAnn) := []
noncomputable def measure_upTo_C : List (Nat × Callee) := []
noncomputable def measure_upTo_fun : Fun := ⟨[.sl (.int .i64), .int .i64], [.v (.int .i64)], fun x => measure_upTo_F x.1 x.2.1⟩
theorem measure_upTo_ev (x : Tys.I [.sl (.int .i64), .int .i64]) : evFun G0 (fun f => olook f measure_upTo_C) ⟨[], [], [], [], [], []⟩ (fun i => olook i measure_upTo_L) Try.f22 [.sl (.int .i64), .int .i64] [.v (.int .i64)] x = measure_upTo_T x.1 x.2.1 := by kernel_rfl
theorem measure_upTo_ok : FunOk Try.prog 22 measure_upTo_fun := evFun_ok mixed ctx0 (no_calls) Try.func22 (by kernel_rfl) _ (fun x => congrArg Tr.run (measure_upTo_ev x)) (by kernel_rfl) (by kernel_rfl)
/-! ### (*boustrophedon/measure.Ruler).Cells -/
noncomputable def measure_Ruler_Cells_T (r0 : List Int × List Int) (from1 : Int) (to2 : Int) : Tr Int :=
  .br (decide (from1 < 0)) (
    .pure 0) (
    .br (decide (from1 > to2)) (
      .pure 0) (
      .bnd (measure_Ruler_Count_F r0) fun c_1 =>
      .br (decide (to2 > c_1)) (
        .pure 0) (
        .bnd (measure_upTo_F r0.1 to2) fun c_2 =>
        .bnd (measure_upTo_F r0.1 from1) fun c_3 =>
        .pure (IntKind.i64.wrap (c_2 - c_3)))))
noncomputable def measure_Ruler_Cells_F (r0 : List Int × List Int) (from1 : Int) (to2 : Int) : Option Int := (measure_Ruler_Cells_T r0 from1 to2).run
def measure_Ruler_Cells_L : List (Nat × LoopAnn) := []
noncomputable def measure_Ruler_Cells_C : List (Nat × Callee) := [(14, .plain measure_Ruler_Count_fun), (22, .plain measure_upTo_fun)]
noncomputable def measure_Ruler_Cells_fun : Fun := ⟨[.ptr (.st (.pair (.sl (.int .i64)) (.sl (.int .i64)))), .int .i64, .int .i64], [.v (.int .i64)], fun x => measure_Ruler_Cells_F x.1 x.2.1 x.2.2.1⟩
theorem measure_Ruler_Cells_ev (x : Tys.I [.ptr (.st (.pair (.sl (.int .i64)) (.sl (.int .i64)))), .int .i64, .int .i64]) : evFun G0 (fun f => olook f measure_Ruler_Cells_C) ⟨[], [(3, [0, 1, 2, 3, 4, 6, 7, 8, 9, 10, 5, 11, 12, 13])], [], [], [], []⟩ (fun i => olook i measure_Ruler_Cells_L) Try.f15 [.ptr (.st (.pair (.sl (.int .i64)) (.sl (.int .i64)))), .int .i64, .int .i64] [.v (.int .i64)] x = measure_Ruler_Cells_T x.1 x.2.1 x.2.2.1 := by kernel_rfl
theorem measure_Ruler_Cells_ok : FunOk Try.prog 15 measure_Ruler_Cells_fun := evFun_ok mixed ctx0 (cons_calls (fb := .plain measure_Ruler_Count_fun) measure_Ruler_Count_ok (fun h => by cases h) (cons_calls (fb := .plain measure_upTo_fun) measure_upTo_ok (fun h => by cases h) (no_calls))) Try.func15 (by kernel_rfl) _ (fun x => congrArg Tr.run (measure_Ruler_Cells_ev x)) (by kernel_rfl) (by kernel_rfl)
/-! ### (*boustrophedon/measure.Ruler).Shown -/
noncomputable def measure_Ruler_Shown_T (r0 : List Int × List Int) (from1 : Int) (to2 : Int) : Tr Int :=
  .br (decide (to2 < 0)) (
    .pure 0) (
    .bnd (measure_Ruler_Count_F r0) fun c_1 =>
    .br (decide (to2 > c_1)) (
      .pure 0) (
      .bnd (measure_upTo_F r0.2 to2) fun c_2 =>
      .bnd (measure_Ruler_Cells_F r0 from1 (if (if c_2 > from1 then c_2 else from1) < to2 then (if c_2 > from1 then c_2 else from1) else to2)) fun c_3 =>
      .pure c_3))
noncomputable def measure_Ruler_Shown_F (r0 : List Int × List Int) (from1 : Int) (to2 : Int) : Option Int := (measure_Ruler_Shown_T r0 from1 to2).run
def measure_Ruler_Shown_L : List (Nat × LoopAnn) := []
noncomputable def measure_Ruler_Shown_C : List (Nat × Callee) := [(14, .plain measure_Ruler_Count_fun), (22, .plain measure_upTo_fun), (15, .plain measure_Ruler_Cells_fun)]
noncomputable def measure_Ruler_Shown_fun : Fun := ⟨[.ptr (.st (.pair (.sl (.int .i64)) (.sl (.int .i64)))), .int .i64, .int .i64], [.v (.int .i64)], fun x => measure_Ruler_Shown_F x.1 x.2.1 x.2.2.1⟩
theorem measure_Ruler_Shown_ev (x : Tys.I [.ptr (.st (.pair (.sl (.int .i64)) (.sl (.int .i64)))), .int .i64, .int .i64]) : evFun G0 (fun f => olook f measure_Ruler_Shown_C) ⟨[], [], [], [], [], []⟩ (fun i => olook i measure_Ruler_Shown_L) Try.f16 [.ptr (.st (.pair (.sl (.int .i64)) (.sl (.int .i64)))), .int .i64, .int .i64] [.v (.int .i64)] x = measure_Ruler_Shown_T x.1 x.2.1 x.2.2.1 := by kernel_rfl
theorem measure_Ruler_Shown_ok : FunOk Try.prog 16 measure_Ruler_Shown_fun := evFun_ok mixed ctx0 (cons_calls (fb := .plain measure_Ruler_Count_fun) measure_Ruler_Count_ok (fun h => by cases h) (cons_calls (fb := .plain measure_upTo_fun) measure_upTo_ok (fun h => by cases h) (cons_calls (fb := .plain measure_Ruler_Cells_fun) measure_Ruler_Cells_ok (fun h => by cases h) (no_calls)))) Try.func16 (by kernel_rfl) _ (fun x => congrArg Tr.run (measure_Ruler_Shown_ev x)) (by kernel_rfl) (by kernel_rfl)
/-! ### (*boustrophedon/measure.Ruler).Whole -/
noncomputable def measure_Ruler_Whole_T (r0 : List Int × List Int) (at1 : Int) : Tr Bool :=
  .bnd (measure_Ruler_Count_F r0) fun c_1 =>
  .br (at1 == c_1) (
    .pure true) (
    .bnd (measure_Ruler_Cells_F r0 at1 (IntKind.i64.wrap (at1 + 1))) fun c_2 =>
    .pure (c_2 != 0))
noncomputable def measure_Ruler_Whole_F (r0 : List Int × List Int) (at1 : Int) : Option Bool := (measure_Ruler_Whole_T r0 at1).run
def measure_Ruler_Whole_L : List (Nat × LoopAnn) := []
noncomputable def measure_Ruler_Whole_C : List (Nat × Callee) := [(14, .plain measure_Ruler_Count_fun), (15, .plain measure_Ruler_Cells_fun)]
noncomputable def measure_Ruler_Whole_fun : Fun := ⟨[.ptr (.st (.pair (.sl (.int .i64)) (.sl (.int .i64)))), .int .i64], [.v .bool], fun x => measure_Ruler_Whole_F x.1 x.2.1⟩
theorem measure_Ruler_Whole_ev (x : Tys.I [.ptr (.st (.pair (.sl (.int .i64)) (.sl (.int .i64)))), .int .i64]) : evFun G0 (fun f => olook f measure_Ruler_Whole_C) ⟨[], [], [], [], [], []⟩ (fun i => olook i measure_Ruler_Whole_L) Try.f17 [.ptr (.st (.pair (.sl (.int .i64)) (.sl (.int .i64)))), .int .i64] [.v .bool] x = measure_Ruler_Whole_T x.1 x.2.1 := by kernel_rfl
theorem measure_Ruler_Whole_ok : FunOk Try.prog 17 measure_Ruler_Whole_fun := evFun_ok mixed ctx0 (cons_calls (fb := .plain measure_Ruler_Count_fun) measure_Ruler_Count_ok (fun h => by cases h) (cons_calls (fb := .plain measure_Ruler_Cells_fun) measure_Ruler_Cells_ok (fun h => by cases h) (no_calls))) Try.func17 (by kernel_rfl) _ (fun x => congrArg Tr.run (measure_Ruler_Whole_ev x)) (by kernel_rfl) (by kernel_rfl)
/-! ### boustrophedon/fill.end -/
noncomputable def fill_end_L3 (r0 : List Int × List Int) (ss1 : List Int) (from2 : Int) (width3 : Int) (allowed9 : Int) (whole10 : Int) (at11 : Int) : Tr (Lap ((List Int × List Int) × List Int × Int × Int × Int × Int × Int) (Sum ((List Int × List Int) × List Int × Int × Int × Int) Int)) :=
  .bnd (measure_Ruler_Count_F r0) fun c_1 =>
  .br (decide (at11 ≤ c_1)) (
    .bnd (measure_Ruler_Shown_F r0 from2 at11) fun c_2 =>
    .br (decide (c_2 ≤ width3)) (
      .bnd (idx ss1 at11) fun x_3 =>
      .br (x_3 == 2) (
        .pure (.done (.inr at11))) (
        .bnd (idx ss1 at11) fun x_4 =>
        .br (x_4 == 1) (
          .bnd (measure_Ruler_Whole_F r0 at11) fun c_5 =>
          .br c_5 (
            .pure (.next (r0, ss1, from2, width3, at11, at11, IntKind.i64.wrap (at11 + 1)))) (
            .pure (.next (r0, ss1, from2, width3, at11, whole10, IntKind.i64.wrap (at11 + 1))))) (
          .bnd (measure_Ruler_Whole_F r0 at11) fun c_6 =>
          .br c_6 (
            .pure (.next (r0, ss1, from2, width3, allowed9, at11, IntKind.i64.wrap (at11 + 1)))) (
            .pure (.next (r0, ss1, from2, width3, allowed9, whole10, IntKind.i64.wrap (at11 + 1))))))) (
      .pure (.done (.inl (r0, ss1, from2, allowed9, whole10))))) (
    .pure (.done (.inl (r0, ss1, from2, allowed9, whole10))))
noncomputable def fill_end_L16 (r0 : List Int × List Int) (ss1 : List Int) (at12 : Int) : Tr (Lap ((List Int × List Int) × List Int × Int) Int) :=
  .bnd (measure_Ruler_Whole_F r0 at12) fun c_8 =>
  .br (!c_8) (
    .bnd (idx ss1 at12) fun x_9 =>
    .br (x_9 != 2) (
      .pure (.next (r0, ss1, IntKind.i64.wrap (at12 + 1)))) (
      .pure (.done at12))) (
    .pure (.done at12))
noncomputable def fill_end_T (r0 : List Int × List Int) (ss1 : List Int) (from2 : Int) (width3 : Int) : Tr Int :=
  .alt (loopW (fun s => (fill_end_L3 s.1 s.2.1 s.2.2.1 s.2.2.2.1 s.2.2.2.2.1 s.2.2.2.2.2.1 s.2.2.2.2.2.2).run) (r0, ss1, from2, width3, from2, from2, IntKind.i64.wrap (from2 + 1))) (fun l_7 =>
    .br (decide (l_7.2.2.2.1 > l_7.2.2.1)) (
      .pure l_7.2.2.2.1) (
      .br (decide (l_7.2.2.2.2 > l_7.2.2.1)) (
        .pure l_7.2.2.2.2) (
        .bnd (loopW (fun s => (fill_end_L16 s.1 s.2.1 s.2.2).run) (l_7.1, l_7.2.1, IntKind.i64.wrap (l_7.2.2.1 + 1))) fun l_10 =>
        .pure l_10))) (fun l_11 =>
    .pure l_11)
noncomputable def fill_end_F (r0 : List Int × List Int) (ss1 : List Int) (from2 : Int) (width3 : Int) : Option Int := (fill_end_T r0 ss1 from2 width3).run
def fill_end_L : List (Nat × LoopAnn) := [(3, { head := [.sv 0 false (.ptr (.st (.pair (.sl (.int .i64)) (.sl (.int .i64))))), .sv 1 false (.sl (.int .i64)), .sv 2 false (.int .i64), .sv 3 false (.int .i64), .sv 9 false (.int .i64), .sv 10 false (.int .i64), .sv 11 true (.int .i64)], xid := 0, out := [.sv 0 false (.ptr (.st (.pair (.sl (.int .i64)) (.sl (.int .i64))))), .sv 1 false (.sl (.int .i64)), .sv 2 false (.int .i64), .sv 9 false (.int .i64), .sv 10 false (.int .i64)], hasRet := true, res := [.sv 8 true (.int .i64)] }), (16, { head := [.sv 0 false (.ptr (.st (.pair (.sl (.int .i64)) (.sl (.int .i64))))), .sv 1 false (.sl (.int .i64)), .sv 12 true (.int .i64)], xid := 2, out := [.sv 12 true (.int .i64)], hasRet := false, res := [] })]
noncomputable def fill_end_C : List (Nat × Callee) := [(14, .plain measure_Ruler_Count_fun), (16, .plain measure_Ruler_Shown_fun), (17, .plain measure_Ruler_Whole_fun)]
noncomputable def fill_end_fun : Fun := ⟨[.ptr (.st (.pair (.sl (.int .i64)) (.sl (.int .i64)))), .sl (.int .i64), .int .i64, .int .i64], [.v (.int .i64)], fun x => fill_end_F x.1 x.2.1 x.2.2.1 x.2.2.2.1⟩
theorem fill_end_ev (x : Tys.I [.ptr (.st (.pair (.sl (.int .i64)) (.sl (.int .i64)))), .sl (.int .i64), .int .i64, .int .i64]) : evFun G0 (fun f => olook f fill_end_C) ⟨[], [], [], [], [], []⟩ (fun i => olook i fill_end_L) Try.f24 [.ptr (.st (.pair (.sl (.int .i64)) (.sl (.int .i64)))), .sl (.int .i64), .int .i64, .int .i64] [.v (.int .i64)] x = fill_end_T x.1 x.2.1 x.2.2.1 x.2.2.2.1 := by kernel_rfl
theorem fill_end_ok : FunOk Try.prog 24 fill_end_fun := evFun_ok mixed ctx0 (cons_calls (fb := .plain measure_Ruler_Count_fun) measure_Ruler_Count_ok (fun h => by cases h) (cons_calls (fb := .plain measure_Ruler_Shown_fun) measure_Ruler_Shown_ok (fun h => by cases h) (cons_calls (fb := .plain measure_Ruler_Whole_fun) measure_Ruler_Whole_ok (fun h => by cases h) (no_calls)))) Try.func24 (by kernel_rfl) _ (fun x => congrArg Tr.run (fill_end_ev x)) (by kernel_rfl) (by kernel_rfl)
/-! ### boustrophedon/fill.Lines -/
noncomputable def fill_Lines_L7 (r0 : List Int × List Int) (ss1 : List Int) (width2 : Int) (lines8 : List (Int × Int × Bool × Bool)) (from9 : Int) : Tr (Lap ((List Int × List Int) × List Int × Int × (List (Int × Int × Bool × Bool)) × Int) (List (Int × Int × Bool × Bool))) :=
  .bnd (measure_Ruler_Count_F r0) fun c_4 =>
  .br (decide (from9 < c_4)) (
    .bnd (fill_end_F r0 ss1 from9 width2) fun c_5 =>
    .bnd (idx ss1 c_5) fun x_6 =>
    .bnd (idx ss1 c_5) fun x_7 =>
    .bnd (app 5864062014805 lines8 ([(from9, c_5, x_6 == 2, x_7 == 0)])) fun r_8 =>
    .pure (.next (r0, ss1, width2, r_8, c_5))) (
    .pure (.done lines8))
noncomputable def fill_Lines_T (r0 : List Int × List Int) (ss1 : List Int) (width2 : Int) : Tr ((List (Int × Int × Bool × Bool)) × Option (Int × ByteArray × Int)) :=
  .br (decide (width2 < 1)) (
    .bnd (api_Wrap_F 2 (ByteArray.mk #[119, 105, 100, 116, 104]) width2) fun c_1 =>
    .pure ([], c_1)) (
    .bnd (measure_Ruler_Count_F r0) fun c_2 =>
    .br ((ss1.length : Int) != (IntKind.i64.wrap (c_2 + 1))) (
      .bnd (api_Wrap_F 6 (ByteArray.mk #[115, 116, 97, 116, 117, 115]) (ss1.length : Int)) fun c_3 =>
      .pure ([], c_3)) (
      .bnd (loopW (fun s => (fill_Lines_L7 s.1 s.2.1 s.2.2.1 s.2.2.2.1 s.2.2.2.2).run) (r0, ss1, width2, [], 0)) fun l_9 =>
      .pure (l_9, none)))
noncomputable def fill_Lines_F (r0 : List Int × List Int) (ss1 : List Int) (width2 : Int) : Option ((List (Int × Int × Bool × Bool)) × Option (Int × ByteArray × Int)) := (fill_Lines_T r0 ss1 width2).run
def fill_Lines_L : List (Nat × LoopAnn) := [(7, { head := [.sv 0 false (.ptr (.st (.pair (.sl (.int .i64)) (.sl (.int .i64))))), .sv 1 false (.sl (.int .i64)), .sv 2 false (.int .i64), .srow 8 1000008 45 true (.st (.pair (.int .i64) (.pair (.int .i64) (.pair .bool .bool)))), .sv 9 true (.int .i64)], xid := 0, out := [.srow 8 1000008 45 true (.st (.pair (.int .i64) (.pair (.int .i64) (.pair .bool .bool))))], hasRet := false, res := [] })]
noncomputable def fill_Lines_C : List (Nat × Callee) := [(23, .plain api_Wrap_fun), (14, .plain measure_Ruler_Count_fun), (24, .plain fill_end_fun)]
noncomputable def fill_Lines_fun : Fun := ⟨[.ptr (.st (.pair (.sl (.int .i64)) (.sl (.int .i64)))), .sl (.int .i64), .int .i64], [.row 45 (.st (.pair (.int .i64) (.pair (.int .i64) (.pair .bool .bool)))), .v (.err 55 54)], fun x => fill_Lines_F x.1 x.2.1 x.2.2.1⟩
theorem fill_Lines_ev (x : Tys.I [.ptr (.st (.pair (.sl (.int .i64)) (.sl (.int .i64)))), .sl (.int .i64), .int .i64]) : evFun G0 (fun f => olook f fill_Lines_C) ⟨[], [], [], [], [], []⟩ (fun i => olook i fill_Lines_L) Try.f20 [.ptr (.st (.pair (.sl (.int .i64)) (.sl (.int .i64)))), .sl (.int .i64), .int .i64] [.row 45 (.st (.pair (.int .i64) (.pair (.int .i64) (.pair .bool .bool)))), .v (.err 55 54)] x = fill_Lines_T x.1 x.2.1 x.2.2.1 := by kernel_rfl
theorem fill_Lines_ok : FunOk Try.prog 20 fill_Lines_fun := evFun_ok mixed ctx0 (cons_calls (fb := .plain api_Wrap_fun) api_Wrap_ok (fun h => by cases h) (cons_calls (fb := .plain measure_Ruler_Count_fun) measure_Ruler_Count_ok (fun h => by cases h) (cons_calls (fb := .plain fill_end_fun) fill_end_ok (fun h => by cases h) (no_calls)))) Try.func20 (by kernel_rfl) _ (fun x => congrArg Tr.run (fill_Lines_ev x)) (by kernel_rfl) (by kernel_rfl)
/-! ### boustrophedon/boustrophedonlaw23.awake -/
noncomputable def law23_awake_T : Tr Bool :=
  .bnd (measure_Of_F ([1, 1, 1, 1, 1]) ([1, 1, 9, 1, 1])) fun c_1 =>
  .bnd (fill_Lines_F c_1 ([0, 0, 0, 1, 0, 2]) 2) fun c_2 =>
  .bnd (measure_Of_F ([1, 1, 1]) ([1, 1, 1])) fun c_3 =>
  .bnd (fill_Lines_F c_3 ([0, 0, 0, 2]) 2) fun c_4 =>
  .bnd (measure_Of_F ([2]) ([30])) fun c_5 =>
  .bnd (fill_Lines_F c_5 ([0, 2]) 1) fun c_6 =>
  .br c_2.2.isNone (
    .br c_4.2.isNone (
      .br c_6.2.isNone (
        .br ((c_2.1.length : Int) == 2) (
          .bnd (idx c_2.1 0) fun x_7 =>
          .br ((x_7.1 == (0 : Int)) && ((x_7.2.1 == (3 : Int)) && ((x_7.2.2.1 == false) && (x_7.2.2.2 == false)))) (
            .bnd (idx c_2.1 1) fun x_8 =>
            .br ((x_8.1 == (3 : Int)) && ((x_8.2.1 == (5 : Int)) && ((x_8.2.2.1 == true) && (x_8.2.2.2 == false)))) (
              .br ((c_4.1.length : Int) == 2) (
                .bnd (idx c_4.1 0) fun x_9 =>
                .br ((x_9.1 == (0 : Int)) && ((x_9.2.1 == (2 : Int)) && ((x_9.2.2.1 == false) && (x_9.2.2.2 == true)))) (
                  .br ((c_6.1.length : Int) == 1) (
                    .bnd (idx c_6.1 0) fun x_10 =>
                    .pure ((x_10.1 == (0 : Int)) && ((x_10.2.1 == (1 : Int)) && ((x_10.2.2.1 == true) && (x_10.2.2.2 == false))))) (
                    .pure false)) (
                  .pure false)) (
                .pure false)) (
              .pure false)) (
            .pure false)) (
          .pure false)) (
        .pure false)) (
      .pure false)) (
    .pure false)
noncomputable def law23_awake_F : Option Bool := (law23_awake_T).run
def law23_awake_L : List (Nat × LoopAnn) := []
noncomputable def law23_awake_C : List (Nat × Callee) := [(13, .plain measure_Of_fun), (20, .plain fill_Lines_fun)]
noncomputable def law23_awake_fun : Fun := ⟨[], [.v .bool], fun _ => law23_awake_F⟩
theorem law23_awake_ev (x : Tys.I []) : evFun G0 (fun f => olook f law23_awake_C) ⟨[], [], [], [], [], []⟩ (fun i => olook i law23_awake_L) Try.f18 [] [.v .bool] x = law23_awake_T := by kernel_rfl
theorem law23_awake_ok : FunOk Try.prog 18 law23_awake_fun := evFun_ok mixed ctx0 (cons_calls (fb := .plain measure_Of_fun) measure_Of_ok (fun h => by cases h) (cons_calls (fb := .plain fill_Lines_fun) fill_Lines_ok (fun h => by cases h) (no_calls))) Try.func18 (by kernel_rfl) _ (fun x => congrArg Tr.run (law23_awake_ev x)) (by kernel_rfl) (by kernel_rfl)
/-! ### boustrophedon/boustrophedonlaw23.Statuses -/
noncomputable def law23_Statuses_L3 (ns0 : List Int) (n1 : Int) (out5 : List Int) (k6 : Int) : Tr (Lap (List Int × Int × List Int × Int) (Int × List Int)) :=
  .br (decide (k6 < n1)) (
    .br (decide (k6 < (ns0.length : Int))) (
      .bnd (idx ns0 k6) fun x_2 =>
      .bnd (idx out5 k6) fun x_3 =>
      .pure (.next (ns0, n1, out5.set (Int.toNat k6) (IntKind.i64.wrap (x_2.tmod 3)), IntKind.i64.wrap (k6 + 1)))) (
      .pure (.next (ns0, n1, out5, IntKind.i64.wrap (k6 + 1))))) (
    .pure (.done (n1, out5)))
noncomputable def law23_Statuses_T (ns0 : List Int) (n1 : Int) : Tr (List Int) :=
  .bnd (mk 17592186044416 0 (IntKind.i64.wrap (n1 + 1))) fun r_1 =>
  .bnd (loopW (fun s => (law23_Statuses_L3 s.1 s.2.1 s.2.2.1 s.2.2.2).run) (ns0, n1, r_1, 1)) fun l_4 =>
  .br (decide (l_4.1 > 0)) (
    .bnd (idx l_4.2 l_4.1) fun x_5 =>
    .pure (l_4.2.set (Int.toNat l_4.1) 2)) (
    .pure l_4.2)
noncomputable def law23_Statuses_F (ns0 : List Int) (n1 : Int) : Option (List Int) := (law23_Statuses_T ns0 n1).run
def law23_Statuses_L : List (Nat × LoopAnn) := [(3, { head := [.sv 0 false (.sl (.int .u8)), .sv 1 false (.int .i64), .srow 5 1000005 47 true (.int .i64), .sv 6 true (.int .i64)], xid := 0, out := [.sv 1 false (.int .i64), .srow 5 1000005 47 true (.int .i64)], hasRet := false, res := [] })]
noncomputable def law23_Statuses_C : List (Nat × Callee) := []
noncomputable def law23_Statuses_fun : Fun := ⟨[.sl (.int .u8), .int .i64], [.row 47 (.int .i64)], fun x => law23_Statuses_F x.1 x.2.1⟩
theorem law23_Statuses_ev (x : Tys.I [.sl (.int .u8), .int .i64]) : evFun G0 (fun f => olook f law23_Statuses_C) ⟨[], [], [], [], [], []⟩ (fun i => olook i law23_Statuses_L) Try.f19 [.sl (.int .u8), .int .i64] [.row 47 (.int .i64)] x = law23_Statuses_T x.1 x.2.1 := by kernel_rfl
theorem law23_Statuses_ok : FunOk Try.prog 19 law23_Statuses_fun := evFun_ok mixed ctx0 (no_calls) Try.func19 (by kernel_rfl) _ (fun x => congrArg Tr.run (law23_Statuses_ev x)) (by kernel_rfl) (by kernel_rfl)
/-! ### boustrophedon/boustrophedonlaw23.end$1 -/
noncomputable def law23_end_1_T (to0 : Int) (t1 : List Int × List Int) (t2 : Int) (t3 : Int) : Tr Bool :=
  .bnd (measure_Ruler_Shown_F t1 t2 to0) fun c_1 =>
  .pure (decide (c_1 ≤ t3))
noncomputable def law23_end_1_F (to0 : Int) (t1 : List Int × List Int) (t2 : Int) (t3 : Int) : Option Bool := (law23_end_1_T to0 t1 t2 t3).run
def law23_end_1_L : List (Nat × LoopAnn) := []
noncomputable def law23_end_1_C : List (Nat × Callee) := [(16, .plain measure_Ruler_Shown_fun)]
noncomputable def law23_end_1_fun : Fun := ⟨[.int .i64, .ptr (.ptr (.st (.pair (.sl (.int .i64)) (.sl (.int .i64))))), .ptr (.int .i64), .ptr (.int .i64)], [.v .bool], fun x => law23_end_1_F x.1 x.2.1 x.2.2.1 x.2.2.2.1⟩
theorem law23_end_1_ev (x : Tys.I [.int .i64, .ptr (.ptr (.st (.pair (.sl (.int .i64)) (.sl (.int .i64))))), .ptr (.int .i64), .ptr (.int .i64)]) : evFun G0 (fun f => olook f law23_end_1_C) ⟨[], [(1, [0, 1, 2, 4, 3, 5, 6])], [], [], [], []⟩ (fun i => olook i law23_end_1_L) Try.f25 [.int .i64, .ptr (.ptr (.st (.pair (.sl (.int .i64)) (.sl (.int .i64))))), .ptr (.int .i64), .ptr (.int .i64)] [.v .bool] x = law23_end_1_T x.1 x.2.1 x.2.2.1 x.2.2.2.1 := by kernel_rfl
theorem law23_end_1_ok : FunOk Try.prog 25 law23_end_1_fun := evFun_ok mixed ctx0 (cons_calls (fb := .plain measure_Ruler_Shown_fun) measure_Ruler_Shown_ok (fun h => by cases h) (no_calls)) Try.func25 (by kernel_rfl) _ (fun x => congrArg Tr.run (law23_end_1_ev x)) (by kernel_rfl) (by kernel_rfl)
/-! ### boustrophedon/boustrophedonlaw23.end -/
noncomputable def law23_end_L3 (ss1 : List Int) (r4 : List Int × List Int) (from6 : Int) (fits9 : (List Int × List Int) × Int × Int) (to10 : Int) : Tr (Lap (List Int × (List Int × List Int) × Int × ((List Int × List Int) × Int × Int) × Int) (Sum (List Int × (List Int × List Int) × Int × (List Int × List Int) × Int × Int) Int)) :=
  .bnd (measure_Ruler_Count_F r4) fun c_1 =>
  .br (decide (to10 ≤ c_1)) (
    .bnd (law23_end_1_F to10 fits9.1 fits9.2.1 fits9.2.2) fun c_2 =>
    .br c_2 (
      .bnd (idx ss1 to10) fun x_3 =>
      .br (x_3 == 2) (
        .pure (.done (.inr to10))) (
        .pure (.next (ss1, r4, from6, fits9, IntKind.i64.wrap (to10 + 1))))) (
      .pure (.done (.inl (ss1, r4, from6, fits9))))) (
    .pure (.done (.inl (ss1, r4, from6, fits9))))
noncomputable def law23_end_L8 (ss1 : List Int) (r4 : List Int × List Int) (from6 : Int) (fits9 : (List Int × List Int) × Int × Int) (to11 : Int) : Tr (Lap (List Int × (List Int × List Int) × Int × ((List Int × List Int) × Int × Int) × Int) (Sum (List Int × (List Int × List Int) × Int × (List Int × List Int) × Int × Int) Int)) :=
  .br (decide (to11 > from6)) (
    .bnd (law23_end_1_F to11 fits9.1 fits9.2.1 fits9.2.2) fun c_6 =>
    .br c_6 (
      .bnd (idx ss1 to11) fun x_7 =>
      .br (x_7 == 1) (
        .pure (.done (.inr to11))) (
        .pure (.next (ss1, r4, from6, fits9, IntKind.i64.wrap (to11 - 1))))) (
      .pure (.next (ss1, r4, from6, fits9, IntKind.i64.wrap (to11 - 1))))) (
    .pure (.done (.inl (ss1, r4, from6, fits9))))
noncomputable def law23_end_L13 (ss1 : List Int) (r4 : List Int × List Int) (from6 : Int) (fits9 : (List Int × List Int) × Int × Int) (to12 : Int) : Tr (Lap (List Int × (List Int × List Int) × Int × ((List Int × List Int) × Int × Int) × Int) (Sum (List Int × (List Int × List Int) × Int) Int)) :=
  .br (decide (to12 > from6)) (
    .bnd (law23_end_1_F to12 fits9.1 fits9.2.1 fits9.2.2) fun c_10 =>
    .br c_10 (
      .bnd (measure_Ruler_Whole_F r4 to12) fun c_11 =>
      .br c_11 (
        .pure (.done (.inr to12))) (
        .pure (.next (ss1, r4, from6, fits9, IntKind.i64.wrap (to12 - 1))))) (
      .pure (.next (ss1, r4, from6, fits9, IntKind.i64.wrap (to12 - 1))))) (
    .pure (.done (.inl (ss1, r4, from6))))
noncomputable def law23_end_L18 (ss1 : List Int) (r4 : List Int × List Int) (to13 : Int) : Tr (Lap (List Int × (List Int × List Int) × Int) (Sum (List Int × List Int) Int)) :=
  .bnd (measure_Ruler_Count_F r4) fun c_13 =>
  .br (decide (to13 < c_13)) (
    .bnd (measure_Ruler_Whole_F r4 to13) fun c_14 =>
    .br c_14 (
      .pure (.done (.inr to13))) (
      .bnd (idx ss1 to13) fun x_15 =>
      .br (x_15 == 2) (
        .pure (.done (.inr to13))) (
        .pure (.next (ss1, r4, IntKind.i64.wrap (to13 + 1)))))) (
    .pure (.done (.inl r4)))
noncomputable def law23_end_T (r0 : List Int × List Int) (ss1 : List Int) (from2 : Int) (width3 : Int) : Tr Int :=
  .alt (loopW (fun s => (law23_end_L3 s.1 s.2.1 s.2.2.1 s.2.2.2.1 s.2.2.2.2).run) (ss1, r0, from2, (r0, from2, width3), IntKind.i64.wrap (from2 + 1))) (fun l_4 =>
    .bnd (measure_Ruler_Count_F l_4.2.1) fun c_5 =>
    .alt (loopW (fun s => (law23_end_L8 s.1 s.2.1 s.2.2.1 s.2.2.2.1 s.2.2.2.2).run) (l_4.1, l_4.2.1, l_4.2.2.1, l_4.2.2.2, c_5)) (fun l_8 =>
      .bnd (measure_Ruler_Count_F l_8.2.1) fun c_9 =>
      .alt (loopW (fun s => (law23_end_L13 s.1 s.2.1 s.2.2.1 s.2.2.2.1 s.2.2.2.2).run) (l_8.1, l_8.2.1, l_8.2.2.1, l_8.2.2.2, c_9)) (fun l_12 =>
        .alt (loopW (fun s => (law23_end_L18 s.1 s.2.1 s.2.2).run) (l_12.1, l_12.2.1, IntKind.i64.wrap (l_12.2.2 + 1))) (fun l_16 =>
          .bnd (measure_Ruler_Count_F l_16) fun c_17 =>
          .pure c_17) (fun l_18 =>
          .pure l_18)) (fun l_19 =>
        .pure l_19)) (fun l_20 =>
      .pure l_20)) (fun l_21 =>
    .pure l_21)
noncomputable def law23_end_F (r0 : List Int × List Int) (ss1 : List Int) (from2 : Int) (width3 : Int) : Option Int := (law23_end_T r0 ss1 from2 width3).run
def law23_end_L : List (Nat × LoopAnn) := [(3, { head := [.sv 1 false (.sl (.int .i64)), .sv 4 false (.ptr (.ptr (.st (.pair (.sl (.int .i64)) (.sl (.int .i64)))))), .sv 6 true (.ptr (.int .i64)), .sv 9 false (.fn 25 (.pair (.ptr (.ptr (.st (.pair (.sl (.int .i64)) (.sl (.int .i64)))))) (.pair (.ptr (.int .i64)) (.ptr (.int .i64))))), .sv 10 true (.int .i64)], xid := 0, out := [.sv 1 false (.sl (.int .i64)), .sv 4 false (.ptr (.ptr (.st (.pair (.sl (.int .i64)) (.sl (.int .i64)))))), .sv 6 true (.ptr (.int .i64)), .sv 9 false (.fn 25 (.pair (.ptr (.ptr (.st (.pair (.sl (.int .i64)) (.sl (.int .i64)))))) (.pair (.ptr (.int .i64)) (.ptr (.int .i64)))))], hasRet := true, res := [.sv 8 true (.int .i64)] }), (8, { head := [.sv 1 false (.sl (.int .i64)), .sv 4 false (.ptr (.ptr (.st (.pair (.sl (.int .i64)) (.sl (.int .i64)))))), .sv 6 true (.ptr (.int .i64)), .sv 9 false (.fn 25 (.pair (.ptr (.ptr (.st (.pair (.sl (.int .i64)) (.sl (.int .i64)))))) (.pair (.ptr (.int .i64)) (.ptr (.int .i64))))), .sv 11 true (.int .i64)], xid := 2, out := [.sv 1 false (.sl (.int .i64)), .sv 4 false (.ptr (.ptr (.st (.pair (.sl (.int .i64)) (.sl (.int .i64)))))), .sv 6 true (.ptr (.int .i64)), .sv 9 false (.fn 25 (.pair (.ptr (.ptr (.st (.pair (.sl (.int .i64)) (.sl (.int .i64)))))) (.pair (.ptr (.int .i64)) (.ptr (.int .i64)))))], hasRet := true, res := [.sv 8 true (.int .i64)] }), (13, { head := [.sv 1 false (.sl (.int .i64)), .sv 4 false (.ptr (.ptr (.st (.pair (.sl (.int .i64)) (.sl (.int .i64)))))), .sv 6 true (.ptr (.int .i64)), .sv 9 false (.fn 25 (.pair (.ptr (.ptr (.st (.pair (.sl (.int .i64)) (.sl (.int .i64)))))) (.pair (.ptr (.int .i64)) (.ptr (.int .i64))))), .sv 12 true (.int .i64)], xid := 4, out := [.sv 1 false (.sl (.int .i64)), .sv 4 false (.ptr (.ptr (.st (.pair (.sl (.int .i64)) (.sl (.int .i64)))))), .sv 6 true (.ptr (.int .i64))], hasRet := true, res := [.sv 8 true (.int .i64)] }), (18, { head := [.sv 1 false (.sl (.int .i64)), .sv 4 false (.ptr (.ptr (.st (.pair (.sl (.int .i64)) (.sl (.int .i64)))))), .sv 13 true (.int .i64)], xid := 6, out := [.sv 4 false (.ptr (.ptr (.st (.pair (.sl (.int .i64)) (.sl (.int .i64))))))], hasRet := true, res := [.sv 8 true (.int .i64)] })]
noncomputable def law23_end_C : List (Nat × Callee) := [(14, .plain measure_Ruler_Count_fun), (25, .plain law23_end_1_fun), (17, .plain measure_Ruler_Whole_fun)]
noncomputable def law23_end_fun : Fun := ⟨[.ptr (.st (.pair (.sl (.int .i64)) (.sl (.int .i64)))), .sl (.int .i64), .int .i64, .int .i64], [.v (.int .i64)], fun x => law23_end_F x.1 x.2.1 x.2.2.1 x.2.2.2.1⟩
theorem law23_end_ev (x : Tys.I [.ptr (.st (.pair (.sl (.int .i64)) (.sl (.int .i64)))), .sl (.int .i64), .int .i64, .int .i64]) : evFun G0 (fun f => olook f law23_end_C) ⟨[], [], [], [], [], []⟩ (fun i => olook i law23_end_L) Try.f21 [.ptr (.st (.pair (.sl (.int .i64)) (.sl (.int .i64)))), .sl (.int .i64), .int .i64, .int .i64] [.v (.int .i64)] x = law23_end_T x.1 x.2.1 x.2.2.1 x.2.2.2.1 := by kernel_rfl
theorem law23_end_ok : FunOk Try.prog 21 law23_end_fun := evFun_ok mixed ctx0 (cons_calls (fb := .plain measure_Ruler_Count_fun) measure_Ruler_Count_ok (fun h => by cases h) (cons_calls (fb := .plain law23_end_1_fun) law23_end_1_ok (fun h => by cases h) (cons_calls (fb := .plain measure_Ruler_Whole_fun) measure_Ruler_Whole_ok (fun h => by cases h) (no_calls)))) Try.func21 (by kernel_rfl) _ (fun x => congrArg Tr.run (law23_end_ev x)) (by kernel_rfl) (by kernel_rfl)
/-! ### boustrophedon/boustrophedonlaw23.FillLines -/
noncomputable def law23_FillLines_L9 (r9 : List Int × List Int) (ss10 : List Int) (w11 : Int) (e13 : Option (Int × ByteArray × Int)) (at14 : Int) (t39 : List (Int × Int × Bool × Bool)) (t40 : Int) (t41 : Int) : Tr (Lap ((List Int × List Int) × List Int × Int × (Option (Int × ByteArray × Int)) × Int × (List (Int × Int × Bool × Bool)) × Int × Int) (Sum ((List Int × List Int) × (Option (Int × ByteArray × Int)) × Int) Bool)) :=
  .br (decide (t41 < t40)) (
    .bnd (idx t39 t41) fun x_8 =>
    .bnd (idx ([x_8]) 0) fun x_9 =>
    .br (x_9.1 != at14) (
      .pure (.done (.inr false))) (
      .bnd (idx ([x_8]) 0) fun x_10 =>
      .br (decide (x_10.2.1 ≤ at14)) (
        .pure (.done (.inr false))) (
        .bnd (idx ([x_8]) 0) fun x_11 =>
        .bnd (measure_Ruler_Count_F r9) fun c_12 =>
        .br (decide (x_11.2.1 > c_12)) (
          .pure (.done (.inr false))) (
          .bnd (idx ([x_8]) 0) fun x_13 =>
          .bnd (law23_end_F r9 ss10 at14 w11) fun c_14 =>
          .br (x_13.2.1 != c_14) (
            .pure (.done (.inr false))) (
            .bnd (idx ([x_8]) 0) fun x_15 =>
            .bnd (idx ([x_8]) 0) fun x_16 =>
            .bnd (idx ss10 x_16.2.1) fun x_17 =>
            .br (!(x_15.2.2.1 == (x_17 == 2))) (
              .pure (.done (.inr false))) (
              .bnd (idx ([x_8]) 0) fun x_18 =>
              .bnd (idx ([x_8]) 0) fun x_19 =>
              .bnd (idx ss10 x_19.2.1) fun x_20 =>
              .br (!(x_18.2.2.2 == (x_20 == 0))) (
                .pure (.done (.inr false))) (
                .bnd (idx ([x_8]) 0) fun x_21 =>
                .pure (.next (r9, ss10, w11, e13, x_21.2.1, t39, t40, IntKind.i64.wrap (t41 + 1)))))))))) (
    .pure (.done (.inl (r9, e13, at14))))
noncomputable def law23_FillLines_T (ws0 : List Int) (ns1 : List Int) (ms2 : List Int) (width3 : Int) : Tr Bool :=
  .bnd law23_awake_F fun c_1 =>
  .br (!c_1) (
    .pure false) (
    .bnd (law22_Widths_F ws0) fun c_2 =>
    .bnd (law19_Classes_F ns1) fun c_3 =>
    .bnd (measure_Of_F c_2 c_3) fun c_4 =>
    .bnd (measure_Ruler_Count_F c_4) fun c_5 =>
    .bnd (law23_Statuses_F ms2 c_5) fun c_6 =>
    .bnd (fill_Lines_F c_4 c_6 (IntKind.i64.wrap (1 + (IntKind.i64.wrap (width3.tmod 40))))) fun c_7 =>
    .alt (loopW (fun s => (law23_FillLines_L9 s.1 s.2.1 s.2.2.1 s.2.2.2.1 s.2.2.2.2.1 s.2.2.2.2.2.1 s.2.2.2.2.2.2.1 s.2.2.2.2.2.2.2).run) (c_4, c_6, IntKind.i64.wrap (1 + (IntKind.i64.wrap (width3.tmod 40))), c_7.2, 0, c_7.1, (c_7.1.length : Int), 0)) (fun l_22 =>
      .br l_22.2.1.isNone (
        .bnd (measure_Ruler_Count_F l_22.1) fun c_23 =>
        .pure (l_22.2.2 == c_23)) (
        .pure false)) (fun l_24 =>
      .pure l_24))
noncomputable def law23_FillLines_F (ws0 : List Int) (ns1 : List Int) (ms2 : List Int) (width3 : Int) : Option Bool := (law23_FillLines_T ws0 ns1 ms2 width3).run
def law23_FillLines_L : List (Nat × LoopAnn) := [(9, { head := [.sv 9 true (.ptr (.st (.pair (.sl (.int .i64)) (.sl (.int .i64))))), .srow 10 1000010 47 true (.int .i64), .sv 11 true (.int .i64), .sv 13 true (.err 55 54), .sv 14 true (.int .i64), .srow 39 1000039 45 true (.st (.pair (.int .i64) (.pair (.int .i64) (.pair .bool .bool)))), .sv 40 true (.int .i64), .sv 41 true (.int .i64)], xid := 0, out := [.sv 9 true (.ptr (.st (.pair (.sl (.int .i64)) (.sl (.int .i64))))), .sv 13 true (.err 55 54), .sv 14 true (.int .i64)], hasRet := true, res := [.sv 8 true .bool] })]
noncomputable def law23_FillLines_C : List (Nat × Callee) := [(18, .plain law23_awake_fun), (11, .plain law22_Widths_fun), (12, .plain law19_Classes_fun), (13, .plain measure_Of_fun), (14, .plain measure_Ruler_Count_fun), (19, .plain law23_Statuses_fun), (20, .plain fill_Lines_fun), (21, .plain law23_end_fun)]
noncomputable def law23_FillLines_fun : Fun := ⟨[.sl (.int .u8), .sl (.int .u8), .sl (.int .u8), .int .u8], [.v .bool], fun x => law23_FillLines_F x.1 x.2.1 x.2.2.1 x.2.2.2.1⟩
theorem law23_FillLines_ev (x : Tys.I [.sl (.int .u8), .sl (.int .u8), .sl (.int .u8), .int .u8]) : evFun G0 (fun f => olook f law23_FillLines_C) ⟨[], [], [], [], [], []⟩ (fun i => olook i law23_FillLines_L) Try.f6 [.sl (.int .u8), .sl (.int .u8), .sl (.int .u8), .int .u8] [.v .bool] x = law23_FillLines_T x.1 x.2.1 x.2.2.1 x.2.2.2.1 := by kernel_rfl
theorem law23_FillLines_ok : FunOk Try.prog 6 law23_FillLines_fun := evFun_ok mixed ctx0 (cons_calls (fb := .plain law23_awake_fun) law23_awake_ok (fun h => by cases h) (cons_calls (fb := .plain law22_Widths_fun) law22_Widths_ok (fun h => by cases h) (cons_calls (fb := .plain law19_Classes_fun) law19_Classes_ok (fun h => by cases h) (cons_calls (fb := .plain measure_Of_fun) measure_Of_ok (fun h => by cases h) (cons_calls (fb := .plain measure_Ruler_Count_fun) measure_Ruler_Count_ok (fun h => by cases h) (cons_calls (fb := .plain law23_Statuses_fun) law23_Statuses_ok (fun h => by cases h) (cons_calls (fb := .plain fill_Lines_fun) fill_Lines_ok (fun h => by cases h) (cons_calls (fb := .plain law23_end_fun) law23_end_ok (fun h => by cases h) (no_calls))))))))) Try.func6 (by kernel_rfl) _ (fun x => congrArg Tr.run (law23_FillLines_ev x)) (by kernel_rfl) (by kernel_rfl)
/-! ### boustrophedon/boustrophedonlaw23.FillFits -/
noncomputable def law23_FillFits_L13 (widths9 : List Int) (r10 : List Int × List Int) (ss11 : List Int) (w12 : Int) (l16 : Int × Int × Bool × Bool) (n17 : Int) (k18 : Int) (t48 : List (Int × Int × Bool × Bool)) (t49 : Int) (t50 : Int) : Tr (Lap (List Int × (List Int × List Int) × List Int × Int × (Int × Int × Bool × Bool) × Int × Int × (List (Int × Int × Bool × Bool)) × Int × Int) (List Int × (List Int × List Int) × List Int × Int × (Int × Int × Bool × Bool) × Int × (List (Int × Int × Bool × Bool)) × Int × Int)) :=
  .bnd (idx ([l16]) 0) fun x_10 =>
  .br (decide (k18 < x_10.2.1)) (
    .bnd (idx widths9 k18) fun x_11 =>
    .br (decide (x_11 > 0)) (
      .pure (.next (widths9, r10, ss11, w12, l16, IntKind.i64.wrap (n17 + 1), IntKind.i64.wrap (k18 + 1), t48, t49, t50))) (
      .pure (.next (widths9, r10, ss11, w12, l16, n17, IntKind.i64.wrap (k18 + 1), t48, t49, t50)))) (
    .pure (.done (widths9, r10, ss11, w12, l16, n17, t48, t49, t50)))
noncomputable def law23_FillFits_L9 (widths9 : List Int) (r10 : List Int × List Int) (ss11 : List Int) (w12 : Int) (t48 : List (Int × Int × Bool × Bool)) (t49 : Int) (t50 : Int) : Tr (Lap (List Int × (List Int × List Int) × List Int × Int × (List (Int × Int × Bool × Bool)) × Int × Int) (Sum ((List Int × List Int) × List Int) Bool)) :=
  .br (decide (t50 < t49)) (
    .bnd (idx t48 t50) fun x_8 =>
    .bnd (idx ([x_8]) 0) fun x_9 =>
    .bnd (loopW (fun s => (law23_FillFits_L13 s.1 s.2.1 s.2.2.1 s.2.2.2.1 s.2.2.2.2.1 s.2.2.2.2.2.1 s.2.2.2.2.2.2.1 s.2.2.2.2.2.2.2.1 s.2.2.2.2.2.2.2.2.1 s.2.2.2.2.2.2.2.2.2).run) (widths9, r10, ss11, w12, x_8, 0, x_9.1, t48, t49, t50)) fun l_12 =>
    .bnd (idx ([l_12.2.2.2.2.1]) 0) fun x_13 =>
    .bnd (idx ([l_12.2.2.2.2.1]) 0) fun x_14 =>
    .bnd (measure_Ruler_Shown_F l_12.2.1 x_13.1 x_14.2.1) fun c_15 =>
    .br (decide (c_15 > l_12.2.2.2.1)) (
      .br (decide (l_12.2.2.2.2.2.1 > 1)) (
        .pure (.done (.inr false))) (
        .pure (.next (l_12.1, l_12.2.1, l_12.2.2.1, l_12.2.2.2.1, l_12.2.2.2.2.2.2.1, l_12.2.2.2.2.2.2.2.1, IntKind.i64.wrap (l_12.2.2.2.2.2.2.2.2 + 1))))) (
      .pure (.next (l_12.1, l_12.2.1, l_12.2.2.1, l_12.2.2.2.1, l_12.2.2.2.2.2.2.1, l_12.2.2.2.2.2.2.2.1, IntKind.i64.wrap (l_12.2.2.2.2.2.2.2.2 + 1))))) (
    .pure (.done (.inl (r10, ss11))))
noncomputable def law23_FillFits_L26 (r10 : List Int × List Int) (ss11 : List Int) (e20 : Option (Int × ByteArray × Int)) (at21 : Int) (l23 : Int × Int × Bool × Bool) (k24 : Int) (t92 : List (Int × Int × Bool × Bool)) (t93 : Int) (t94 : Int) : Tr (Lap ((List Int × List Int) × List Int × (Option (Int × ByteArray × Int)) × Int × (Int × Int × Bool × Bool) × Int × (List (Int × Int × Bool × Bool)) × Int × Int) (Sum ((List Int × List Int) × List Int × (Option (Int × ByteArray × Int)) × Int × (Int × Int × Bool × Bool) × (List (Int × Int × Bool × Bool)) × Int × Int) Bool)) :=
  .bnd (idx ([l23]) 0) fun x_21 =>
  .br (decide (k24 < x_21.2.1)) (
    .bnd (idx ss11 k24) fun x_22 =>
    .br (x_22 == 2) (
      .pure (.done (.inr false))) (
      .pure (.next (r10, ss11, e20, at21, l23, IntKind.i64.wrap (k24 + 1), t92, t93, t94)))) (
    .pure (.done (.inl (r10, ss11, e20, at21, l23, t92, t93, t94))))
noncomputable def law23_FillFits_L23 (r10 : List Int × List Int) (ss11 : List Int) (e20 : Option (Int × ByteArray × Int)) (at21 : Int) (t92 : List (Int × Int × Bool × Bool)) (t93 : Int) (t94 : Int) : Tr (Lap ((List Int × List Int) × List Int × (Option (Int × ByteArray × Int)) × Int × (List (Int × Int × Bool × Bool)) × Int × Int) (Sum ((List Int × List Int) × (Option (Int × ByteArray × Int)) × Int) Bool)) :=
  .br (decide (t94 < t93)) (
    .bnd (idx t92 t94) fun x_19 =>
    .bnd (idx ([x_19]) 0) fun x_20 =>
    .alt (loopW (fun s => (law23_FillFits_L26 s.1 s.2.1 s.2.2.1 s.2.2.2.1 s.2.2.2.2.1 s.2.2.2.2.2.1 s.2.2.2.2.2.2.1 s.2.2.2.2.2.2.2.1 s.2.2.2.2.2.2.2.2).run) (r10, ss11, e20, at21, x_19, IntKind.i64.wrap (x_20.1 + 1), t92, t93, t94)) (fun l_23 =>
      .bnd (idx ([l_23.2.2.2.2.1]) 0) fun x_24 =>
      .br (!x_24.2.2.1) (
        .pure (.done (.inr false))) (
        .bnd (idx ([l_23.2.2.2.2.1]) 0) fun x_25 =>
        .br (x_25.1 != l_23.2.2.2.1) (
          .pure (.done (.inr false))) (
          .bnd (idx ([l_23.2.2.2.2.1]) 0) fun x_26 =>
          .pure (.next (l_23.1, l_23.2.1, l_23.2.2.1, x_26.2.1, l_23.2.2.2.2.2.1, l_23.2.2.2.2.2.2.1, IntKind.i64.wrap (l_23.2.2.2.2.2.2.2 + 1)))))) (fun l_27 =>
      .pure (.done (.inr l_27)))) (
    .pure (.done (.inl (r10, e20, at21))))
noncomputable def law23_FillFits_T (ws0 : List Int) (ns1 : List Int) (ms2 : List Int) (width3 : Int) : Tr Bool :=
  .bnd law23_awake_F fun c_1 =>
  .br (!c_1) (
    .pure false) (
    .bnd (law22_Widths_F ws0) fun c_2 =>
    .bnd (law19_Classes_F ns1) fun c_3 =>
    .bnd (measure_Of_F c_2 c_3) fun c_4 =>
    .bnd (measure_Ruler_Count_F c_4) fun c_5 =>
    .bnd (law23_Statuses_F ms2 c_5) fun c_6 =>
    .bnd (fill_Lines_F c_4 c_6 (IntKind.i64.wrap (1 + (IntKind.i64.wrap (width3.tmod 40))))) fun c_7 =>
    .alt (loopW (fun s => (law23_FillFits_L9 s.1 s.2.1 s.2.2.1 s.2.2.2.1 s.2.2.2.2.1 s.2.2.2.2.2.1 s.2.2.2.2.2.2).run) (c_2, c_4, c_6, IntKind.i64.wrap (1 + (IntKind.i64.wrap (width3.tmod 40))), c_7.1, (c_7.1.length : Int), 0)) (fun l_16 =>
      .bnd (measure_Ruler_Count_F l_16.1) fun c_17 =>
      .bnd (fill_Lines_F l_16.1 l_16.2 (IntKind.i64.wrap ((IntKind.i64.wrap (2 * c_17)) + 1))) fun c_18 =>
      .alt (loopW (fun s => (law23_FillFits_L23 s.1 s.2.1 s.2.2.1 s.2.2.2.1 s.2.2.2.2.1 s.2.2.2.2.2.1 s.2.2.2.2.2.2).run) (l_16.1, l_16.2, c_18.2, 0, c_18.1, (c_18.1.length : Int), 0)) (fun l_28 =>
        .br l_28.2.1.isNone (
          .bnd (measure_Ruler_Count_F l_28.1) fun c_29 =>
          .pure (l_28.2.2 == c_29)) (
          .pure false)) (fun l_30 =>
        .pure l_30)) (fun l_31 =>
      .pure l_31))
noncomputable def law23_FillFits_F (ws0 : List Int) (ns1 : List Int) (ms2 : List Int) (width3 : Int) : Option Bool := (law23_FillFits_T ws0 ns1 ms2 width3).run
def law23_FillFits_L : List (Nat × LoopAnn) := [(13, { head := [.srow 9 1000009 3 true (.int .i64), .sv 10 true (.ptr (.st (.pair (.sl (.int .i64)) (.sl (.int .i64))))), .srow 11 1000011 47 true (.int .i64), .sv 12 true (.int .i64), .sbox 16 1000016 45 true (.st (.pair (.int .i64) (.pair (.int .i64) (.pair .bool .bool)))), .sv 17 true (.int .i64), .sv 18 true (.int .i64), .srow 48 1000048 45 true (.st (.pair (.int .i64) (.pair (.int .i64) (.pair .bool .bool)))), .sv 49 true (.int .i64), .sv 50 true (.int .i64)], xid := 2, out := [.srow 9 1000009 3 true (.int .i64), .sv 10 true (.ptr (.st (.pair (.sl (.int .i64)) (.sl (.int .i64))))), .srow 11 1000011 47 true (.int .i64), .sv 12 true (.int .i64), .sbox 16 1000016 45 true (.st (.pair (.int .i64) (.pair (.int .i64) (.pair .bool .bool)))), .sv 17 true (.int .i64), .srow 48 1000048 45 true (.st (.pair (.int .i64) (.pair (.int .i64) (.pair .bool .bool)))), .sv 49 true (.int .i64), .sv 50 true (.int .i64)], hasRet := false, res := [] }), (9, { head := [.srow 9 1000009 3 true (.int .i64), .sv 10 true (.ptr (.st (.pair (.sl (.int .i64)) (.sl (.int .i64))))), .srow 11 1000011 47 true (.int .i64), .sv 12 true (.int .i64), .srow 48 1000048 45 true (.st (.pair (.int .i64) (.pair (.int .i64) (.pair .bool .bool)))), .sv 49 true (.int .i64), .sv 50 true (.int .i64)], xid := 0, out := [.sv 10 true (.ptr (.st (.pair (.sl (.int .i64)) (.sl (.int .i64))))), .srow 11 1000011 47 true (.int .i64)], hasRet := true, res := [.sv 8 true .bool] }), (26, { head := [.sv 10 true (.ptr (.st (.pair (.sl (.int .i64)) (.sl (.int .i64))))), .srow 11 1000011 47 true (.int .i64), .sv 20 true (.err 55 54), .sv 21 true (.int .i64), .sbox 23 1000023 45 true (.st (.pair (.int .i64) (.pair (.int .i64) (.pair .bool .bool)))), .sv 24 true (.int .i64), .srow 92 1000092 45 true (.st (.pair (.int .i64) (.pair (.int .i64) (.pair .bool .bool)))), .sv 93 true (.int .i64), .sv 94 true (.int .i64)], xid := 6, out := [.sv 10 true (.ptr (.st (.pair (.sl (.int .i64)) (.sl (.int .i64))))), .srow 11 1000011 47 true (.int .i64), .sv 20 true (.err 55 54), .sv 21 true (.int .i64), .sbox 23 1000023 45 true (.st (.pair (.int .i64) (.pair (.int .i64) (.pair .bool .bool)))), .srow 92 1000092 45 true (.st (.pair (.int .i64) (.pair (.int .i64) (.pair .bool .bool)))), .sv 93 true (.int .i64), .sv 94 true (.int .i64)], hasRet := true, res := [.sv 8 true .bool] }), (23, { head := [.sv 10 true (.ptr (.st (.pair (.sl (.int .i64)) (.sl (.int .i64))))), .srow 11 1000011 47 true (.int .i64), .sv 20 true (.err 55 54), .sv 21 true (.int .i64), .srow 92 1000092 45 true (.st (.pair (.int .i64) (.pair (.int .i64) (.pair .bool .bool)))), .sv 93 true (.int .i64), .sv 94 true (.int .i64)], xid := 4, out := [.sv 10 true (.ptr (.st (.pair (.sl (.int .i64)) (.sl (.int .i64))))), .sv 20 true (.err 55 54), .sv 21 true (.int .i64)], hasRet := true, res := [.sv 8 true .bool] })]
noncomputable def law23_FillFits_C : List (Nat × Callee) := [(18, .plain law23_awake_fun), (11, .plain law22_Widths_fun), (12, .plain law19_Classes_fun), (13, .plain measure_Of_fun), (14, .plain measure_Ruler_Count_fun), (19, .plain law23_Statuses_fun), (20, .plain fill_Lines_fun), (16, .plain measure_Ruler_Shown_fun)]
noncomputable def law23_FillFits_fun : Fun := ⟨[.sl (.int .u8), .sl (.int .u8), .sl (.int .u8), .int .u8], [.v .bool], fun x => law23_FillFits_F x.1 x.2.1 x.2.2.1 x.2.2.2.1⟩
theorem law23_FillFits_ev (x : Tys.I [.sl (.int .u8), .sl (.int .u8), .sl (.int .u8), .int .u8]) : evFun G0 (fun f => olook f law23_FillFits_C) ⟨[], [], [], [], [], []⟩ (fun i => olook i law23_FillFits_L) Try.f7 [.sl (.int .u8), .sl (.int .u8), .sl (.int .u8), .int .u8] [.v .bool] x = law23_FillFits_T x.1 x.2.1 x.2.2.1 x.2.2.2.1 := by kernel_rfl
theorem law23_FillFits_ok : FunOk Try.prog 7 law23_FillFits_fun := evFun_ok mixed ctx0 (cons_calls (fb := .plain law23_awake_fun) law23_awake_ok (fun h => by cases h) (cons_calls (fb := .plain law22_Widths_fun) law22_Widths_ok (fun h => by cases h) (cons_calls (fb := .plain law19_Classes_fun) law19_Classes_ok (fun h => by cases h) (cons_calls (fb := .plain measure_Of_fun) measure_Of_ok (fun h => by cases h) (cons_calls (fb := .plain measure_Ruler_Count_fun) measure_Ruler_Count_ok (fun h => by cases h) (cons_calls (fb := .plain law23_Statuses_fun) law23_Statuses_ok (fun h => by cases h) (cons_calls (fb := .plain fill_Lines_fun) fill_Lines_ok (fun h => by cases h) (cons_calls (fb := .plain measure_Ruler_Shown_fun) measure_Ruler_Shown_ok (fun h => by cases h) (no_calls))))))))) Try.func7 (by kernel_rfl) _ (fun x => congrArg Tr.run (law23_FillFits_ev x)) (by kernel_rfl) (by kernel_rfl)
/-! ### boustrophedon/boustrophedonlaw23.FillRest -/
noncomputable def law23_FillRest_L16 (all14 : List (Int × Int × Bool × Bool)) (at16 : Int) (t96 : List (Int × Int × Bool × Bool)) (t97 : Int) (t98 : Int) : Tr (Lap ((List (Int × Int × Bool × Bool)) × Int × (List (Int × Int × Bool × Bool)) × Int × Int) (Sum Unit Bool)) :=
  .br (decide (t98 < t97)) (
    .bnd (idx t96 t98) fun x_15 =>
    .bnd (idx ([x_15]) 0) fun x_16 =>
    .bnd (idx ([x_15]) 0) fun x_17 =>
    .bnd (idx ([x_15]) 0) fun x_18 =>
    .bnd (idx ([(IntKind.i64.wrap (x_16.1 + at16), x_18.2)]) 0) fun x_19 =>
    .bnd (idx ([(x_19.1, IntKind.i64.wrap (x_17.2.1 + at16), x_19.2.2)]) 0) fun x_20 =>
    .bnd (idx all14 (IntKind.i64.wrap (t98 + 1))) fun x_21 =>
    .br (!((x_20.1 == x_21.1) && ((x_20.2.1 == x_21.2.1) && ((x_20.2.2.1 == x_21.2.2.1) && (x_20.2.2.2 == x_21.2.2.2))))) (
      .pure (.done (.inr false))) (
      .pure (.next (all14, at16, t96, t97, IntKind.i64.wrap (t98 + 1))))) (
    .pure (.done (.inl ())))
noncomputable def law23_FillRest_T (ws0 : List Int) (ns1 : List Int) (ms2 : List Int) (width3 : Int) : Tr Bool :=
  .bnd law23_awake_F fun c_1 =>
  .br (!c_1) (
    .pure false) (
    .bnd (law22_Widths_F ws0) fun c_2 =>
    .bnd (law19_Classes_F ns1) fun c_3 =>
    .bnd (cut c_2 0 (if (c_3.length : Int) < (c_2.length : Int) then (c_3.length : Int) else (c_2.length : Int))) fun r_4 =>
    .bnd (cut c_3 0 (if (c_3.length : Int) < (c_2.length : Int) then (c_3.length : Int) else (c_2.length : Int))) fun r_5 =>
    .bnd (law23_Statuses_F ms2 (if (c_3.length : Int) < (c_2.length : Int) then (c_3.length : Int) else (c_2.length : Int))) fun c_6 =>
    .bnd (measure_Of_F r_4 r_5) fun c_7 =>
    .bnd (fill_Lines_F c_7 c_6 (IntKind.i64.wrap (1 + (IntKind.i64.wrap (width3.tmod 40))))) fun c_8 =>
    .br c_8.2.isSome (
      .br c_8.2.isNone (
        .pure ((if (c_3.length : Int) < (c_2.length : Int) then (c_3.length : Int) else (c_2.length : Int)) == 0)) (
        .pure false)) (
      .br ((c_8.1.length : Int) == 0) (
        .br c_8.2.isNone (
          .pure ((if (c_3.length : Int) < (c_2.length : Int) then (c_3.length : Int) else (c_2.length : Int)) == 0)) (
          .pure false)) (
        .bnd (idx c_8.1 0) fun x_9 =>
        .bnd (cut r_4 x_9.2.1 (r_4.length : Int)) fun r_10 =>
        .bnd (cut r_5 x_9.2.1 (r_5.length : Int)) fun r_11 =>
        .bnd (measure_Of_F r_10 r_11) fun c_12 =>
        .bnd (cut c_6 x_9.2.1 (c_6.length : Int)) fun r_13 =>
        .bnd (fill_Lines_F c_12 r_13 (IntKind.i64.wrap (1 + (IntKind.i64.wrap (width3.tmod 40))))) fun c_14 =>
        .br c_14.2.isSome (
          .pure false) (
          .br ((c_14.1.length : Int) != (IntKind.i64.wrap ((c_8.1.length : Int) - 1))) (
            .pure false) (
            .alt (loopW (fun s => (law23_FillRest_L16 s.1 s.2.1 s.2.2.1 s.2.2.2.1 s.2.2.2.2).run) (c_8.1, x_9.2.1, c_14.1, (c_14.1.length : Int), 0)) (fun l_22 =>
              .pure true) (fun l_23 =>
              .pure l_23))))))
noncomputable def law23_FillRest_F (ws0 : List Int) (ns1 : List Int) (ms2 : List Int) (width3 : Int) : Option Bool := (law23_FillRest_T ws0 ns1 ms2 width3).run
def law23_FillRest_L : List (Nat × LoopAnn) := [(16, { head := [.srow 14 1000014 45 true (.st (.pair (.int .i64) (.pair (.int .i64) (.pair .bool .bool)))), .sv 16 true (.int .i64), .srow 96 1000096 45 true (.st (.pair (.int .i64) (.pair (.int .i64) (.pair .bool .bool)))), .sv 97 true (.int .i64), .sv 98 true (.int .i64)], xid := 0, out := [], hasRet := true, res := [.sv 8 true .bool] })]
noncomputable def law23_FillRest_C : List (Nat × Callee) := [(18, .plain law23_awake_fun), (11, .plain law22_Widths_fun), (12, .plain law19_Classes_fun), (19, .plain law23_Statuses_fun), (13, .plain measure_Of_fun), (20, .plain fill_Lines_fun)]
noncomputable def law23_FillRest_fun : Fun := ⟨[.sl (.int .u8), .sl (.int .u8), .sl (.int .u8), .int .u8], [.v .bool], fun x => law23_FillRest_F x.1 x.2.1 x.2.2.1 x.2.2.2.1⟩
theorem law23_FillRest_ev (x : Tys.I [.sl (.int .u8), .sl (.int .u8), .sl (.int .u8), .int .u8]) : evFun G0 (fun f => olook f law23_FillRest_C) ⟨[34, 37], [], [], [], [], []⟩ (fun i => olook i law23_FillRest_L) Try.f8 [.sl (.int .u8), .sl (.int .u8), .sl (.int .u8), .int .u8] [.v .bool] x = law23_FillRest_T x.1 x.2.1 x.2.2.1 x.2.2.2.1 := by kernel_rfl
theorem law23_FillRest_ok : FunOk Try.prog 8 law23_FillRest_fun := evFun_ok mixed ctx0 (cons_calls (fb := .plain law23_awake_fun) law23_awake_ok (fun h => by cases h) (cons_calls (fb := .plain law22_Widths_fun) law22_Widths_ok (fun h => by cases h) (cons_calls (fb := .plain law19_Classes_fun) law19_Classes_ok (fun h => by cases h) (cons_calls (fb := .plain law23_Statuses_fun) law23_Statuses_ok (fun h => by cases h) (cons_calls (fb := .plain measure_Of_fun) measure_Of_ok (fun h => by cases h) (cons_calls (fb := .plain fill_Lines_fun) fill_Lines_ok (fun h => by cases h) (no_calls))))))) Try.func8 (by kernel_rfl) _ (fun x => congrArg Tr.run (law23_FillRest_ev x)) (by kernel_rfl) (by kernel_rfl)
/-! ### boustrophedon/boustrophedonlaw23.FillWide -/
noncomputable def law23_FillWide_L7 (r7 : List Int × List Int) (n8 : Int) (ss9 : List Int) (k10 : Int) : Tr (Lap ((List Int × List Int) × Int × List Int × Int) ((List Int × List Int) × Int × List Int)) :=
  .br (decide (k10 < n8)) (
    .bnd (idx ss9 k10) fun x_7 =>
    .br (x_7 == 2) (
      .bnd (idx ss9 k10) fun x_8 =>
      .pure (.next (r7, n8, ss9.set (Int.toNat k10) 1, IntKind.i64.wrap (k10 + 1)))) (
      .pure (.next (r7, n8, ss9, IntKind.i64.wrap (k10 + 1))))) (
    .pure (.done (r7, n8, ss9)))
noncomputable def law23_FillWide_T (ws0 : List Int) (ns1 : List Int) (ms2 : List Int) : Tr Bool :=
  .bnd law23_awake_F fun c_1 =>
  .br (!c_1) (
    .pure false) (
    .bnd (law22_Widths_F ws0) fun c_2 =>
    .bnd (law19_Classes_F ns1) fun c_3 =>
    .bnd (measure_Of_F c_2 c_3) fun c_4 =>
    .bnd (measure_Ruler_Count_F c_4) fun c_5 =>
    .bnd (law23_Statuses_F ms2 c_5) fun c_6 =>
    .bnd (loopW (fun s => (law23_FillWide_L7 s.1 s.2.1 s.2.2.1 s.2.2.2).run) (c_4, c_5, c_6, 1)) fun l_9 =>
    .bnd (measure_Ruler_Shown_F l_9.1 0 l_9.2.1) fun c_10 =>
    .bnd (fill_Lines_F l_9.1 l_9.2.2 (if c_10 > 1 then c_10 else 1)) fun c_11 =>
    .br c_11.2.isNone (
      .br (l_9.2.1 == 0) (
        .br ((c_11.1.length : Int) == 0) (
          .pure true) (
          .br (decide (l_9.2.1 > 0)) (
            .br ((c_11.1.length : Int) == 1) (
              .bnd (idx c_11.1 0) fun x_12 =>
              .pure ((x_12.1 == (0 : Int)) && ((x_12.2.1 == l_9.2.1) && ((x_12.2.2.1 == true) && (x_12.2.2.2 == false))))) (
              .pure false)) (
            .pure false))) (
        .br (decide (l_9.2.1 > 0)) (
          .br ((c_11.1.length : Int) == 1) (
            .bnd (idx c_11.1 0) fun x_13 =>
            .pure ((x_13.1 == (0 : Int)) && ((x_13.2.1 == l_9.2.1) && ((x_13.2.2.1 == true) && (x_13.2.2.2 == false))))) (
            .pure false)) (
          .pure false))) (
      .pure false))
noncomputable def law23_FillWide_F (ws0 : List Int) (ns1 : List Int) (ms2 : List Int) : Option Bool := (law23_FillWide_T ws0 ns1 ms2).run
def law23_FillWide_L : List (Nat × LoopAnn) := [(7, { head := [.sv 7 true (.ptr (.st (.pair (.sl (.int .i64)) (.sl (.int .i64))))), .sv 8 true (.int .i64), .srow 9 1000009 47 true (.int .i64), .sv 10 true (.int .i64)], xid := 0, out := [.sv 7 true (.ptr (.st (.pair (.sl (.int .i64)) (.sl (.int .i64))))), .sv 8 true (.int .i64), .srow 9 1000009 47 true (.int .i64)], hasRet := false, res := [] })]
noncomputable def law23_FillWide_C : List (Nat × Callee) := [(18, .plain law23_awake_fun), (11, .plain law22_Widths_fun), (12, .plain law19_Classes_fun), (13, .plain measure_Of_fun), (14, .plain measure_Ruler_Count_fun), (19, .plain law23_Statuses_fun), (16, .plain measure_Ruler_Shown_fun), (20, .plain fill_Lines_fun)]
noncomputable def law23_FillWide_fun : Fun := ⟨[.sl (.int .u8), .sl (.int .u8), .sl (.int .u8)], [.v .bool], fun x => law23_FillWide_F x.1 x.2.1 x.2.2.1⟩
theorem law23_FillWide_ev (x : Tys.I [.sl (.int .u8), .sl (.int .u8), .sl (.int .u8)]) : evFun G0 (fun f => olook f law23_FillWide_C) ⟨[], [], [], [], [], []⟩ (fun i => olook i law23_FillWide_L) Try.f9 [.sl (.int .u8), .sl (.int .u8), .sl (.int .u8)] [.v .bool] x = law23_FillWide_T x.1 x.2.1 x.2.2.1 := by kernel_rfl
theorem law23_FillWide_ok : FunOk Try.prog 9 law23_FillWide_fun := evFun_ok mixed ctx0 (cons_calls (fb := .plain law23_awake_fun) law23_awake_ok (fun h => by cases h) (cons_calls (fb := .plain law22_Widths_fun) law22_Widths_ok (fun h => by cases h) (cons_calls (fb := .plain law19_Classes_fun) law19_Classes_ok (fun h => by cases h) (cons_calls (fb := .plain measure_Of_fun) measure_Of_ok (fun h => by cases h) (cons_calls (fb := .plain measure_Ruler_Count_fun) measure_Ruler_Count_ok (fun h => by cases h) (cons_calls (fb := .plain law23_Statuses_fun) law23_Statuses_ok (fun h => by cases h) (cons_calls (fb := .plain measure_Ruler_Shown_fun) measure_Ruler_Shown_ok (fun h => by cases h) (cons_calls (fb := .plain fill_Lines_fun) fill_Lines_ok (fun h => by cases h) (no_calls))))))))) Try.func9 (by kernel_rfl) _ (fun x => congrArg Tr.run (law23_FillWide_ev x)) (by kernel_rfl) (by kernel_rfl)
end Go.Proofs.Ytafomgonecamlaa
