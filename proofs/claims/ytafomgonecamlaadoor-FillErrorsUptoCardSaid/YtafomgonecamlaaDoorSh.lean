/-
  The plain readings of the functions of this seat, by program; each is tied to the loaded function.
-/
import Derived.Test.YtafomgonecamlaaDoorEvTold2
import Derived.Test.YtafomgonecamlaaDoorChecked
namespace Go.Proofs.YtafomgonecamlaaDoor
set_option maxRecDepth 100000
set_option linter.unusedVariables false

def G0 : Ctx := { ty := [(3, .int .i64), (4, .bool), (5, .int .u8), (9, .str), (22, .sl (.int .u8)), (24, .ptr (.st (.pair (.sl (.int .i64)) (.sl (.int .i64))))), (26, .sl (.int .i64)), (28, .sl (.int .u8)), (30, .sl (.int .i64)), (31, .sl (.st (.pair (.int .i64) (.pair (.int .i64) (.pair .bool .bool))))), (33, .err 51 37), (37, .int .i64), (40, .int .u8), (41, .int .i64), (43, .st (.pair (.int .i64) (.pair (.int .i64) (.pair .bool .bool)))), (45, .st (.pair (.sl (.int .i64)) (.sl (.int .i64))))], sls := [(22, ⟨5, .int .u8, 140737488355328⟩), (26, ⟨3, .int .i64, 17592186044416⟩), (28, ⟨40, .int .u8, 140737488355328⟩), (30, ⟨41, .int .i64, 17592186044416⟩), (31, ⟨43, .st (.pair (.int .i64) (.pair (.int .i64) (.pair .bool .bool))), 5864062014805⟩)], eqs := [(43, .pair (.int .i64) (.pair (.int .i64) (.pair .bool .bool)))], enos := [37] }
theorem mixed : Tryd.prog.follows .mixedOrders = true := by kernel_rfl
theorem ctx0 : CtxOk Tryd.prog G0 := ctx_ok (by kernel_rfl)
theorem no_calls {Λ : List Nat} : ∀ f fa, olook f ([] : List (Nat × Callee)) = some fa → CalleeOk Tryd.prog f fa ∧ (fa.isPlain = false → inList f Λ = true) := fun _ _ h => by cases h
theorem cons_calls {Λ : List Nat} {k : Nat} {fb : Callee} {l : List (Nat × Callee)} (h : CalleeOk Tryd.prog k fb) (hi : fb.isPlain = false → inList k Λ = true) (hl : ∀ f fa, olook f l = some fa → CalleeOk Tryd.prog f fa ∧ (fa.isPlain = false → inList f Λ = true)) : ∀ f fa, olook f ((k, fb) :: l) = some fa → CalleeOk Tryd.prog f fa ∧ (fa.isPlain = false → inList f Λ = true) := by
  intro f fa hf
  rw [olook_cons] at hf
  split at hf
  · rename_i e; subst e; cases hf; exact ⟨h, hi⟩
  · exact hl f fa hf

/-! ### boustrophedon/measure.Of -/
noncomputable def measure_Of_L4 (widths0 : List Int) (cs1 : List Int) (r5 : List Int × List Int) (sum6 : Int) (solid7 : Int) (t15 : Int) (t16 : Int) : Tr (Lap (List Int × List Int × (List Int × List Int) × Int × Int × Int × Int) (List Int × List Int)) :=
  .br (decide (t16 < t15)) (
    .bnd (idx widths0 t16) fun x_1 =>
    .bnd (idx cs1 t16) fun x_2 =>
    .br (x_2 != 9) (
      .bnd (app 17592186044416 r5.1 ([IntKind.i64.wrap (sum6 + x_1)])) fun r_3 =>
      .bnd (app 17592186044416 r5.2 ([IntKind.i64.wrap (t16 + 1)])) fun r_4 =>
      .pure (.next (widths0, cs1, (r_3, r_4), IntKind.i64.wrap (sum6 + x_1), IntKind.i64.wrap (t16 + 1), t15, IntKind.i64.wrap (t16 + 1)))) (
      .bnd (app 17592186044416 r5.1 ([IntKind.i64.wrap (sum6 + x_1)])) fun r_5 =>
      .bnd (app 17592186044416 r5.2 ([solid7])) fun r_6 =>
      .pure (.next (widths0, cs1, (r_5, r_6), IntKind.i64.wrap (sum6 + x_1), solid7, t15, IntKind.i64.wrap (t16 + 1))))) (
    .pure (.done (r5.1, r5.2)))
noncomputable def measure_Of_T (widths0 : List Int) (cs1 : List Int) : Tr (List Int × List Int) :=
  .bnd (loopW (fun s => (measure_Of_L4 s.1 s.2.1 s.2.2.1 s.2.2.2.1 s.2.2.2.2.1 s.2.2.2.2.2.1 s.2.2.2.2.2.2).run) (widths0, cs1, ([], []), 0, 0, if (cs1.length : Int) < (widths0.length : Int) then (cs1.length : Int) else (widths0.length : Int), 0)) fun l_7 =>
  .pure (l_7.1, l_7.2)
noncomputable def measure_Of_F (widths0 : List Int) (cs1 : List Int) : Option (List Int × List Int) := (measure_Of_T widths0 cs1).run
def measure_Of_L : List (Nat × LoopAnn) := [(4, { head := [.sv 0 false (.sl (.int .i64)), .sv 1 false (.sl (.int .u8)), .sboxh 5 1000005 45 (.st (.pair (.sl (.int .i64)) (.sl (.int .i64)))) [(0, 3), (1, 3)], .sv 6 true (.int .i64), .sv 7 true (.int .i64), .sv 15 true (.int .i64), .sv 16 true (.int .i64)], xid := 0, out := [.sboxh 5 1000005 45 (.st (.pair (.sl (.int .i64)) (.sl (.int .i64)))) [(0, 3), (1, 3)]], hasRet := false, res := [] })]
noncomputable def measure_Of_C : List (Nat × Callee) := []
noncomputable def measure_Of_fun : Fun := ⟨[.sl (.int .i64), .sl (.int .u8)], [.v (.ptr (.st (.pair (.sl (.int .i64)) (.sl (.int .i64)))))], fun x => measure_Of_F x.1 x.2.1⟩
theorem measure_Of_ev (x : Tys.I [.sl (.int .i64), .sl (.int .u8)]) : evFunP G0 (fun f => olook f measure_Of_C) ⟨[], [], [], [], [], [(9, [(0, 3), (1, 3)])]⟩ (fun i => olook i measure_Of_L) Tryd.f5 [.sl (.int .i64), .sl (.int .u8)] (.st (.pair (.sl (.int .i64)) (.sl (.int .i64)))) [(0, 3), (1, 3)] x = measure_Of_T x.1 x.2.1 := by kernel_rfl
theorem measure_Of_ok : FunOk Tryd.prog 5 measure_Of_fun := evFunP_ok mixed ctx0 (no_calls) Tryd.func5 (by kernel_rfl) _ (fun x => congrArg Tr.run (measure_Of_ev x)) (by kernel_rfl) (by kernel_rfl)
/-! ### (*boustrophedon/measure.Ruler).Count -/
noncomputable def measure_Ruler_Count_T (r0 : List Int × List Int) : Tr Int :=
  .pure (r0.1.length : Int)
noncomputable def measure_Ruler_Count_F (r0 : List Int × List Int) : Option Int := (measure_Ruler_Count_T r0).run
def measure_Ruler_Count_L : List (Nat × LoopAnn) := []
noncomputable def measure_Ruler_Count_C : List (Nat × Callee) := []
noncomputable def measure_Ruler_Count_fun : Fun := ⟨[.ptr (.st (.pair (.sl (.int .i64)) (.sl (.int .i64))))], [.v (.int .i64)], fun x => measure_Ruler_Count_F x.1⟩
theorem measure_Ruler_Count_ev (x : Tys.I [.ptr (.st (.pair (.sl (.int .i64)) (.sl (.int .i64))))]) : evFun G0 (fun f => olook f measure_Ruler_Count_C) ⟨[], [], [], [], [], []⟩ (fun i => olook i measure_Ruler_Count_L) Tryd.f10 [.ptr (.st (.pair (.sl (.int .i64)) (.sl (.int .i64))))] [.v (.int .i64)] x = measure_Ruler_Count_T x.1 := by kernel_rfl
theorem measure_Ruler_Count_ok : FunOk Tryd.prog 10 measure_Ruler_Count_fun := evFun_ok mixed ctx0 (no_calls) Tryd.func10 (by kernel_rfl) _ (fun x => congrArg Tr.run (measure_Ruler_Count_ev x)) (by kernel_rfl) (by kernel_rfl)
/-! ### boustrophedon/api.Wrap -/
noncomputable def api_Wrap_F (e : Int) (s : ByteArray) (n : Int) : Option (Option (Int × ByteArray × Int)) := some (some (e, s, n))
noncomputable def api_Wrap_fun : Fun := ⟨[.eno 37, .str, .int .i64], [.v (.err 51 37)], fun x => api_Wrap_F x.1 x.2.1 x.2.2.1⟩
theorem api_Wrap_ok : FunOk Tryd.prog 11 api_Wrap_fun := wrap_ok (tF := 53) ⟨_, _, Tryd.func11, by kernel_rfl, rfl⟩ (fun k n s w => by
  go_enter Tryd.func11, Tryd.ntmps11
  go_wp2
  go_ret
  exact ⟨rfl, rfl⟩)
/-! ### boustrophedon/measure.upTo -/
noncomputable def measure_upTo_T (known0 : List Int) (at1 : Int) : Tr Int :=
  .br (at1 == 0) (
    .pure 0) (
    .bnd (idx known0 (IntKind.i64.wrap (at1 - 1))) fun x_1 =>
    .pure x_1)
noncomputable def measure_upTo_F (known0 : List Int) (at1 : Int) : Option Int := (measure_upTo_T known0 at1).run
def measure_upTo_L : List (Nat × LoopAnn) := []
noncomputable def measure_upTo_C : List (Nat × Callee) := []
noncomputable def measure_upTo_fun : Fun := ⟨[.sl (.int .i64), .int .i64], [.v (.int .i64)], fun x => measure_upTo_F x.1 x.2.1⟩
theorem measure_upTo_ev (x : Tys.I [.sl (.int .i64), .int .i64]) : evFun G0 (fun f => olook f measure_upTo_C) ⟨[], [], [], [], [], []⟩ (fun i => olook i measure_upTo_L) Tryd.f19 [.sl (.int .i64), .int .i64] [.v (.int .i64)] x = measure_upTo_T x.1 x.2.1 := by kernel_rfl
theorem measure_upTo_ok : FunOk Tryd.prog 19 measure_upTo_fun := evFun_ok mixed ctx0 (no_calls) Tryd.func19 (by kernel_rfl) _ (fun x => congrArg Tr.run (measure_upTo_ev x)) (by kernel_rfl) (by kernel_rfl)
/-! ### (*boustrophedon/measure.Ruler).Cells -/
noncomputable def measure_Ruler_Cells_T (r0 : List Int × List Int) (from1 : Int) (to2 : Int) : Tr Int :=
  .br (decide (from1 < 0)) (
    .pure 0) (
    .br (decide (from1 > to2)) (
      .pure 0) (
      .bnd (measure_Ruler_Count_F r0) fun c_1 =>
      .br (decide (to2 > c_1)) (
        .pure 0) (
        .bnd (measure_upTo_F r0.1 to2) fun c_2 =>
        .bnd (measure_upTo_F r0.1 from1) fun c_3 =>
        .pure (IntKind.i64.wrap (c_2 - c_3)))))
noncomputable def measure_Ruler_Cells_F (r0 : List Int × List Int) (from1 : Int) (to2 : Int) : Option Int := (measure_Ruler_Cells_T r0 from1 to2).run
def measure_Ruler_Cells_L : List (Nat × LoopAnn) := []
noncomputable def measure_Ruler_Cells_C : List (Nat × Callee) := [(10, .plain measure_Ruler_Count_fun), (19, .plain measure_upTo_fun)]
noncomputable def measure_Ruler_Cells_fun : Fun := ⟨[.ptr (.st (.pair (.sl (.int .i64)) (.sl (.int .i64)))), .int .i64, .int .i64], [.v (.int .i64)], fun x => measure_Ruler_Cells_F x.1 x.2.1 x.2.2.1⟩
theorem measure_Ruler_Cells_ev (x : Tys.I [.ptr (.st (.pair (.sl (.int .i64)) (.sl (.int .i64)))), .int .i64, .int .i64]) : evFun G0 (fun f => olook f measure_Ruler_Cells_C) ⟨[], [(3, [0, 1, 2, 3, 4, 6, 7, 8, 9, 10, 5, 11, 12, 13])], [], [], [], []⟩ (fun i => olook i measure_Ruler_Cells_L) Tryd.f18 [.ptr (.st (.pair (.sl (.int .i64)) (.sl (.int .i64)))), .int .i64, .int .i64] [.v (.int .i64)] x = measure_Ruler_Cells_T x.1 x.2.1 x.2.2.1 := by kernel_rfl
theorem measure_Ruler_Cells_ok : FunOk Tryd.prog 18 measure_Ruler_Cells_fun := evFun_ok mixed ctx0 (cons_calls (fb := .plain measure_Ruler_Count_fun) measure_Ruler_Count_ok (fun h => by cases h) (cons_calls (fb := .plain measure_upTo_fun) measure_upTo_ok (fun h => by cases h) (no_calls))) Tryd.func18 (by kernel_rfl) _ (fun x => congrArg Tr.run (measure_Ruler_Cells_ev x)) (by kernel_rfl) (by kernel_rfl)
/-! ### (*boustrophedon/measure.Ruler).Shown -/
noncomputable def measure_Ruler_Shown_T (r0 : List Int × List Int) (from1 : Int) (to2 : Int) : Tr Int :=
  .br (decide (to2 < 0)) (
    .pure 0) (
    .bnd (measure_Ruler_Count_F r0) fun c_1 =>
    .br (decide (to2 > c_1)) (
      .pure 0) (
      .bnd (measure_upTo_F r0.2 to2) fun c_2 =>
      .bnd (measure_Ruler_Cells_F r0 from1 (if (if c_2 > from1 then c_2 else from1) < to2 then (if c_2 > from1 then c_2 else from1) else to2)) fun c_3 =>
      .pure c_3))
noncomputable def measure_Ruler_Shown_F (r0 : List Int × List Int) (from1 : Int) (to2 : Int) : Option Int := (measure_Ruler_Shown_T r0 from1 to2).run
def measure_Ruler_Shown_L : List (Nat × LoopAnn) := []
noncomputable def measure_Ruler_Shown_C : List (Nat × Callee) := [(10, .plain measure_Ruler_Count_fun), (19, .plain measure_upTo_fun), (18, .plain measure_Ruler_Cells_fun)]
noncomputable def measure_Ruler_Shown_fun : Fun := ⟨[.ptr (.st (.pair (.sl (.int .i64)) (.sl (.int .i64)))), .int .i64, .int .i64], [.v (.int .i64)], fun x => measure_Ruler_Shown_F x.1 x.2.1 x.2.2.1⟩
theorem measure_Ruler_Shown_ev (x : Tys.I [.ptr (.st (.pair (.sl (.int .i64)) (.sl (.int .i64)))), .int .i64, .int .i64]) : evFun G0 (fun f => olook f measure_Ruler_Shown_C) ⟨[], [], [], [], [], []⟩ (fun i => olook i measure_Ruler_Shown_L) Tryd.f15 [.ptr (.st (.pair (.sl (.int .i64)) (.sl (.int .i64)))), .int .i64, .int .i64] [.v (.int .i64)] x = measure_Ruler_Shown_T x.1 x.2.1 x.2.2.1 := by kernel_rfl
theorem measure_Ruler_Shown_ok : FunOk Tryd.prog 15 measure_Ruler_Shown_fun := evFun_ok mixed ctx0 (cons_calls (fb := .plain measure_Ruler_Count_fun) measure_Ruler_Count_ok (fun h => by cases h) (cons_calls (fb := .plain measure_upTo_fun) measure_upTo_ok (fun h => by cases h) (cons_calls (fb := .plain measure_Ruler_Cells_fun) measure_Ruler_Cells_ok (fun h => by cases h) (no_calls)))) Tryd.func15 (by kernel_rfl) _ (fun x => congrArg Tr.run (measure_Ruler_Shown_ev x)) (by kernel_rfl) (by kernel_rfl)
/-! ### (*boustrophedon/measure.Ruler).Whole -/
noncomputable def measure_Ruler_Whole_T (r0 : List Int × List Int) (at1 : Int) : Tr Bool :=
  .bnd (measure_Ruler_Count_F r0) fun c_1 =>
  .br (at1 == c_1) (
    .pure true) (
    .bnd (measure_Ruler_Cells_F r0 at1 (IntKind.i64.wrap (at1 + 1))) fun c_2 =>
    .pure (c_2 != 0))
noncomputable def measure_Ruler_Whole_F (r0 : List Int × List Int) (at1 : Int) : Option Bool := (measure_Ruler_Whole_T r0 at1).run
def measure_Ruler_Whole_L : List (Nat × LoopAnn) := []
noncomputable def measure_Ruler_Whole_C : List (Nat × Callee) := [(10, .plain measure_Ruler_Count_fun), (18, .plain measure_Ruler_Cells_fun)]
noncomputable def measure_Ruler_Whole_fun : Fun := ⟨[.ptr (.st (.pair (.sl (.int .i64)) (.sl (.int .i64)))), .int .i64], [.v .bool], fun x => measure_Ruler_Whole_F x.1 x.2.1⟩
theorem measure_Ruler_Whole_ev (x : Tys.I [.ptr (.st (.pair (.sl (.int .i64)) (.sl (.int .i64)))), .int .i64]) : evFun G0 (fun f => olook f measure_Ruler_Whole_C) ⟨[], [], [], [], [], []⟩ (fun i => olook i measure_Ruler_Whole_L) Tryd.f16 [.ptr (.st (.pair (.sl (.int .i64)) (.sl (.int .i64)))), .int .i64] [.v .bool] x = measure_Ruler_Whole_T x.1 x.2.1 := by kernel_rfl
theorem measure_Ruler_Whole_ok : FunOk Tryd.prog 16 measure_Ruler_Whole_fun := evFun_ok mixed ctx0 (cons_calls (fb := .plain measure_Ruler_Count_fun) measure_Ruler_Count_ok (fun h => by cases h) (cons_calls (fb := .plain measure_Ruler_Cells_fun) measure_Ruler_Cells_ok (fun h => by cases h) (no_calls))) Tryd.func16 (by kernel_rfl) _ (fun x => congrArg Tr.run (measure_Ruler_Whole_ev x)) (by kernel_rfl) (by kernel_rfl)
/-! ### boustrophedon/fill.end -/
noncomputable def fill_end_L3 (r0 : List Int × List Int) (ss1 : List Int) (from2 : Int) (width3 : Int) (allowed9 : Int) (whole10 : Int) (at11 : Int) : Tr (Lap ((List Int × List Int) × List Int × Int × Int × Int × Int × Int) (Sum ((List Int × List Int) × List Int × Int × Int × Int) Int)) :=
  .bnd (measure_Ruler_Count_F r0) fun c_1 =>
  .br (decide (at11 ≤ c_1)) (
    .bnd (measure_Ruler_Shown_F r0 from2 at11) fun c_2 =>
    .br (decide (c_2 ≤ width3)) (
      .bnd (idx ss1 at11) fun x_3 =>
      .br (x_3 == 2) (
        .pure (.done (.inr at11))) (
        .bnd (idx ss1 at11) fun x_4 =>
        .br (x_4 == 1) (
          .bnd (measure_Ruler_Whole_F r0 at11) fun c_5 =>
          .br c_5 (
            .pure (.next (r0, ss1, from2, width3, at11, at11, IntKind.i64.wrap (at11 + 1)))) (
            .pure (.next (r0, ss1, from2, width3, at11, whole10, IntKind.i64.wrap (at11 + 1))))) (
          .bnd (measure_Ruler_Whole_F r0 at11) fun c_6 =>
          .br c_6 (
            .pure (.next (r0, ss1, from2, width3, allowed9, at11, IntKind.i64.wrap (at11 + 1)))) (
            .pure (.next (r0, ss1, from2, width3, allowed9, whole10, IntKind.i64.wrap (at11 + 1))))))) (
      .pure (.done (.inl (r0, ss1, from2, allowed9, whole10))))) (
    .pure (.done (.inl (r0, ss1, from2, allowed9, whole10))))
noncomputable def fill_end_L16 (r0 : List Int × List Int) (ss1 : List Int) (at12 : Int) : Tr (Lap ((List Int × List Int) × List Int × Int) Int) :=
  .bnd (measure_Ruler_Whole_F r0 at12) fun c_8 =>
  .br (!c_8) (
    .bnd (idx ss1 at12) fun x_9 =>
    .br (x_9 != 2) (
      .pure (.next (r0, ss1, IntKind.i64.wrap (at12 + 1)))) (
      .pure (.done at12))) (
    .pure (.done at12))
noncomputable def fill_end_T (r0 : List Int × List Int) (ss1 : List Int) (from2 : Int) (width3 : Int) : Tr Int :=
  .alt (loopW (fun s => (fill_end_L3 s.1 s.2.1 s.2.2.1 s.2.2.2.1 s.2.2.2.2.1 s.2.2.2.2.2.1 s.2.2.2.2.2.2).run) (r0, ss1, from2, width3, from2, from2, IntKind.i64.wrap (from2 + 1))) (fun l_7 =>
    .br (decide (l_7.2.2.2.1 > l_7.2.2.1)) (
      .pure l_7.2.2.2.1) (
      .br (decide (l_7.2.2.2.2 > l_7.2.2.1)) (
        .pure l_7.2.2.2.2) (
        .bnd (loopW (fun s => (fill_end_L16 s.1 s.2.1 s.2.2).run) (l_7.1, l_7.2.1, IntKind.i64.wrap (l_7.2.2.1 + 1))) fun l_10 =>
        .pure l_10))) (fun l_11 =>
    .pure l_11)
noncomputable def fill_end_F (r0 : List Int × List Int) (ss1 : List Int) (from2 : Int) (width3 : Int) : Option Int := (fill_end_T r0 ss1 from2 width3).run
def fill_end_L : List (Nat × LoopAnn) := [(3, { head := [.sv 0 false (.ptr (.st (.pair (.sl (.int .i64)) (.sl (.int .i64))))), .sv 1 false (.sl (.int .i64)), .sv 2 false (.int .i64), .sv 3 false (.int .i64), .sv 9 false (.int .i64), .sv 10 false (.int .i64), .sv 11 true (.int .i64)], xid := 0, out := [.sv 0 false (.ptr (.st (.pair (.sl (.int .i64)) (.sl (.int .i64))))), .sv 1 false (.sl (.int .i64)), .sv 2 false (.int .i64), .sv 9 false (.int .i64), .sv 10 false (.int .i64)], hasRet := true, res := [.sv 8 true (.int .i64)] }), (16, { head := [.sv 0 false (.ptr (.st (.pair (.sl (.int .i64)) (.sl (.int .i64))))), .sv 1 false (.sl (.int .i64)), .sv 12 true (.int .i64)], xid := 2, out := [.sv 12 true (.int .i64)], hasRet := false, res := [] })]
noncomputable def fill_end_C : List (Nat × Callee) := [(10, .plain measure_Ruler_Count_fun), (15, .plain measure_Ruler_Shown_fun), (16, .plain measure_Ruler_Whole_fun)]
noncomputable def fill_end_fun : Fun := ⟨[.ptr (.st (.pair (.sl (.int .i64)) (.sl (.int .i64)))), .sl (.int .i64), .int .i64, .int .i64], [.v (.int .i64)], fun x => fill_end_F x.1 x.2.1 x.2.2.1 x.2.2.2.1⟩
theorem fill_end_ev (x : Tys.I [.ptr (.st (.pair (.sl (.int .i64)) (.sl (.int .i64)))), .sl (.int .i64), .int .i64, .int .i64]) : evFun G0 (fun f => olook f fill_end_C) ⟨[], [], [], [], [], []⟩ (fun i => olook i fill_end_L) Tryd.f12 [.ptr (.st (.pair (.sl (.int .i64)) (.sl (.int .i64)))), .sl (.int .i64), .int .i64, .int .i64] [.v (.int .i64)] x = fill_end_T x.1 x.2.1 x.2.2.1 x.2.2.2.1 := by kernel_rfl
theorem fill_end_ok : FunOk Tryd.prog 12 fill_end_fun := evFun_ok mixed ctx0 (cons_calls (fb := .plain measure_Ruler_Count_fun) measure_Ruler_Count_ok (fun h => by cases h) (cons_calls (fb := .plain measure_Ruler_Shown_fun) measure_Ruler_Shown_ok (fun h => by cases h) (cons_calls (fb := .plain measure_Ruler_Whole_fun) measure_Ruler_Whole_ok (fun h => by cases h) (no_calls)))) Tryd.func12 (by kernel_rfl) _ (fun x => congrArg Tr.run (fill_end_ev x)) (by kernel_rfl) (by kernel_rfl)
/-! ### boustrophedon/fill.Lines -/
noncomputable def fill_Lines_L7 (r0 : List Int × List Int) (ss1 : List Int) (width2 : Int) (lines8 : List (Int × Int × Bool × Bool)) (from9 : Int) : Tr (Lap ((List Int × List Int) × List Int × Int × (List (Int × Int × Bool × Bool)) × Int) (List (Int × Int × Bool × Bool))) :=
  .bnd (measure_Ruler_Count_F r0) fun c_4 =>
  .br (decide (from9 < c_4)) (
    .bnd (fill_end_F r0 ss1 from9 width2) fun c_5 =>
    .bnd (idx ss1 c_5) fun x_6 =>
    .bnd (idx ss1 c_5) fun x_7 =>
    .bnd (app 5864062014805 lines8 ([(from9, c_5, x_6 == 2, x_7 == 0)])) fun r_8 =>
    .pure (.next (r0, ss1, width2, r_8, c_5))) (
    .pure (.done lines8))
noncomputable def fill_Lines_T (r0 : List Int × List Int) (ss1 : List Int) (width2 : Int) : Tr ((List (Int × Int × Bool × Bool)) × Option (Int × ByteArray × Int)) :=
  .br (decide (width2 < 1)) (
    .bnd (api_Wrap_F 2 (ByteArray.mk #[119, 105, 100, 116, 104]) width2) fun c_1 =>
    .pure ([], c_1)) (
    .bnd (measure_Ruler_Count_F r0) fun c_2 =>
    .br ((ss1.length : Int) != (IntKind.i64.wrap (c_2 + 1))) (
      .bnd (api_Wrap_F 6 (ByteArray.mk #[115, 116, 97, 116, 117, 115]) (ss1.length : Int)) fun c_3 =>
      .pure ([], c_3)) (
      .bnd (loopW (fun s => (fill_Lines_L7 s.1 s.2.1 s.2.2.1 s.2.2.2.1 s.2.2.2.2).run) (r0, ss1, width2, [], 0)) fun l_9 =>
      .pure (l_9, none)))
noncomputable def fill_Lines_F (r0 : List Int × List Int) (ss1 : List Int) (width2 : Int) : Option ((List (Int × Int × Bool × Bool)) × Option (Int × ByteArray × Int)) := (fill_Lines_T r0 ss1 width2).run
def fill_Lines_L : List (Nat × LoopAnn) := [(7, { head := [.sv 0 false (.ptr (.st (.pair (.sl (.int .i64)) (.sl (.int .i64))))), .sv 1 false (.sl (.int .i64)), .sv 2 false (.int .i64), .srow 8 1000008 43 true (.st (.pair (.int .i64) (.pair (.int .i64) (.pair .bool .bool)))), .sv 9 true (.int .i64)], xid := 0, out := [.srow 8 1000008 43 true (.st (.pair (.int .i64) (.pair (.int .i64) (.pair .bool .bool))))], hasRet := false, res := [] })]
noncomputable def fill_Lines_C : List (Nat × Callee) := [(11, .plain api_Wrap_fun), (10, .plain measure_Ruler_Count_fun), (12, .plain fill_end_fun)]
noncomputable def fill_Lines_fun : Fun := ⟨[.ptr (.st (.pair (.sl (.int .i64)) (.sl (.int .i64)))), .sl (.int .i64), .int .i64], [.row 43 (.st (.pair (.int .i64) (.pair (.int .i64) (.pair .bool .bool)))), .v (.err 51 37)], fun x => fill_Lines_F x.1 x.2.1 x.2.2.1⟩
theorem fill_Lines_ev (x : Tys.I [.ptr (.st (.pair (.sl (.int .i64)) (.sl (.int .i64)))), .sl (.int .i64), .int .i64]) : evFun G0 (fun f => olook f fill_Lines_C) ⟨[], [], [], [], [], []⟩ (fun i => olook i fill_Lines_L) Tryd.f8 [.ptr (.st (.pair (.sl (.int .i64)) (.sl (.int .i64)))), .sl (.int .i64), .int .i64] [.row 43 (.st (.pair (.int .i64) (.pair (.int .i64) (.pair .bool .bool)))), .v (.err 51 37)] x = fill_Lines_T x.1 x.2.1 x.2.2.1 := by kernel_rfl
theorem fill_Lines_ok : FunOk Tryd.prog 8 fill_Lines_fun := evFun_ok mixed ctx0 (cons_calls (fb := .plain api_Wrap_fun) api_Wrap_ok (fun h => by cases h) (cons_calls (fb := .plain measure_Ruler_Count_fun) measure_Ruler_Count_ok (fun h => by cases h) (cons_calls (fb := .plain fill_end_fun) fill_end_ok (fun h => by cases h) (no_calls)))) Tryd.func8 (by kernel_rfl) _ (fun x => congrArg Tr.run (fill_Lines_ev x)) (by kernel_rfl) (by kernel_rfl)
/-! ### boustrophedon/boustrophedonlaw23.awake -/
noncomputable def law23_awake_T : Tr Bool :=
  .bnd (measure_Of_F ([1, 1, 1, 1, 1]) ([1, 1, 9, 1, 1])) fun c_1 =>
  .bnd (fill_Lines_F c_1 ([0, 0, 0, 1, 0, 2]) 2) fun c_2 =>
  .bnd (measure_Of_F ([1, 1, 1]) ([1, 1, 1])) fun c_3 =>
  .bnd (fill_Lines_F c_3 ([0, 0, 0, 2]) 2) fun c_4 =>
  .bnd (measure_Of_F ([2]) ([30])) fun c_5 =>
  .bnd (fill_Lines_F c_5 ([0, 2]) 1) fun c_6 =>
  .br c_2.2.isNone (
    .br c_4.2.isNone (
      .br c_6.2.isNone (
        .br ((c_2.1.length : Int) == 2) (
          .bnd (idx c_2.1 0) fun x_7 =>
          .br ((x_7.1 == (0 : Int)) && ((x_7.2.1 == (3 : Int)) && ((x_7.2.2.1 == false) && (x_7.2.2.2 == false)))) (
            .bnd (idx c_2.1 1) fun x_8 =>
            .br ((x_8.1 == (3 : Int)) && ((x_8.2.1 == (5 : Int)) && ((x_8.2.2.1 == true) && (x_8.2.2.2 == false)))) (
              .br ((c_4.1.length : Int) == 2) (
                .bnd (idx c_4.1 0) fun x_9 =>
                .br ((x_9.1 == (0 : Int)) && ((x_9.2.1 == (2 : Int)) && ((x_9.2.2.1 == false) && (x_9.2.2.2 == true)))) (
                  .br ((c_6.1.length : Int) == 1) (
                    .bnd (idx c_6.1 0) fun x_10 =>
                    .pure ((x_10.1 == (0 : Int)) && ((x_10.2.1 == (1 : Int)) && ((x_10.2.2.1 == true) && (x_10.2.2.2 == false))))) (
                    .pure false)) (
                  .pure false)) (
                .pure false)) (
              .pure false)) (
            .pure false)) (
          .pure false)) (
        .pure false)) (
      .pure false)) (
    .pure false)
noncomputable def law23_awake_F : Option Bool := (law23_awake_T).run
def law23_awake_L : List (Nat × LoopAnn) := []
noncomputable def law23_awake_C : List (Nat × Callee) := [(5, .plain measure_Of_fun), (8, .plain fill_Lines_fun)]
noncomputable def law23_awake_fun : Fun := ⟨[], [.v .bool], fun _ => law23_awake_F⟩
theorem law23_awake_ev (x : Tys.I []) : evFun G0 (fun f => olook f law23_awake_C) ⟨[], [], [], [], [], []⟩ (fun i => olook i law23_awake_L) Tryd.f4 [] [.v .bool] x = law23_awake_T := by kernel_rfl
theorem law23_awake_ok : FunOk Tryd.prog 4 law23_awake_fun := evFun_ok mixed ctx0 (cons_calls (fb := .plain measure_Of_fun) measure_Of_ok (fun h => by cases h) (cons_calls (fb := .plain fill_Lines_fun) fill_Lines_ok (fun h => by cases h) (no_calls))) Tryd.func4 (by kernel_rfl) _ (fun x => congrArg Tr.run (law23_awake_ev x)) (by kernel_rfl) (by kernel_rfl)
/-! ### boustrophedon/boustrophedonlaw22.Widths -/
noncomputable def law22_Widths_L3 (ns0 : List Int) (out3 : List Int) (k4 : Int) : Tr (Lap (List Int × List Int × Int) (List Int)) :=
  .br (decide (k4 < (ns0.length : Int))) (
    .bnd (idx ns0 k4) fun x_1 =>
    .bnd (app 17592186044416 out3 ([IntKind.i64.wrap (x_1.tmod 3)])) fun r_2 =>
    .pure (.next (ns0, r_2, IntKind.i64.wrap (k4 + 1)))) (
    .pure (.done out3))
noncomputable def law22_Widths_T (ns0 : List Int) : Tr (List Int) :=
  .bnd (loopW (fun s => (law22_Widths_L3 s.1 s.2.1 s.2.2).run) (ns0, [], 0)) fun l_3 =>
  .pure l_3
noncomputable def law22_Widths_F (ns0 : List Int) : Option (List Int) := (law22_Widths_T ns0).run
def law22_Widths_L : List (Nat × LoopAnn) := [(3, { head := [.sv 0 false (.sl (.int .u8)), .srow 3 1000003 3 true (.int .i64), .sv 4 true (.int .i64)], xid := 0, out := [.srow 3 1000003 3 true (.int .i64)], hasRet := false, res := [] })]
noncomputable def law22_Widths_C : List (Nat × Callee) := []
noncomputable def law22_Widths_fun : Fun := ⟨[.sl (.int .u8)], [.row 3 (.int .i64)], fun x => law22_Widths_F x.1⟩
theorem law22_Widths_ev (x : Tys.I [.sl (.int .u8)]) : evFun G0 (fun f => olook f law22_Widths_C) ⟨[], [], [], [], [], []⟩ (fun i => olook i law22_Widths_L) Tryd.f6 [.sl (.int .u8)] [.row 3 (.int .i64)] x = law22_Widths_T x.1 := by kernel_rfl
theorem law22_Widths_ok : FunOk Tryd.prog 6 law22_Widths_fun := evFun_ok mixed ctx0 (no_calls) Tryd.func6 (by kernel_rfl) _ (fun x => congrArg Tr.run (law22_Widths_ev x)) (by kernel_rfl) (by kernel_rfl)
/-! ### boustrophedon/boustrophedonlaw19.Classes -/
noncomputable def law19_Classes_L3 (ns0 : List Int) (out3 : List Int) (k4 : Int) : Tr (Lap (List Int × List Int × Int) (List Int)) :=
  .br (decide (k4 < (ns0.length : Int))) (
    .bnd (idx ns0 k4) fun x_1 =>
    .bnd (app 140737488355328 out3 ([x_1.tmod 43])) fun r_2 =>
    .pure (.next (ns0, r_2, IntKind.i64.wrap (k4 + 1)))) (
    .pure (.done out3))
noncomputable def law19_Classes_T (ns0 : List Int) : Tr (List Int) :=
  .bnd (loopW (fun s => (law19_Classes_L3 s.1 s.2.1 s.2.2).run) (ns0, [], 0)) fun l_3 =>
  .pure l_3
noncomputable def law19_Classes_F (ns0 : List Int) : Option (List Int) := (law19_Classes_T ns0).run
def law19_Classes_L : List (Nat × LoopAnn) := [(3, { head := [.sv 0 false (.sl (.int .u8)), .srow 3 1000003 40 true (.int .u8), .sv 4 true (.int .i64)], xid := 0, out := [.srow 3 1000003 40 true (.int .u8)], hasRet := false, res := [] })]
noncomputable def law19_Classes_C : List (Nat × Callee) := []
noncomputable def law19_Classes_fun : Fun := ⟨[.sl (.int .u8)], [.row 40 (.int .u8)], fun x => law19_Classes_F x.1⟩
theorem law19_Classes_ev (x : Tys.I [.sl (.int .u8)]) : evFun G0 (fun f => olook f law19_Classes_C) ⟨[], [], [], [], [], []⟩ (fun i => olook i law19_Classes_L) Tryd.f7 [.sl (.int .u8)] [.row 40 (.int .u8)] x = law19_Classes_T x.1 := by kernel_rfl
theorem law19_Classes_ok : FunOk Tryd.prog 7 law19_Classes_fun := evFun_ok mixed ctx0 (no_calls) Tryd.func7 (by kernel_rfl) _ (fun x => congrArg Tr.run (law19_Classes_ev x)) (by kernel_rfl) (by kernel_rfl)
/-! ### boustrophedon/api.Place -/
noncomputable def api_Place_F (x : Option (Int × ByteArray × Int)) : Option (ByteArray × Int) := some (match x with | none => (ByteArray.empty, 0) | some y => (y.2.1, y.2.2))
noncomputable def api_Place_fun : Fun := ⟨[.err 51 37], [.v .str, .v (.int .i64)], fun x => api_Place_F x.1⟩
theorem api_Place_ok : FunOk Tryd.prog 13 api_Place_fun := place_ok
/-! ### boustrophedon/api.Number -/
noncomputable def api_Number_F (x : Option (Int × ByteArray × Int)) : Option Int := some (match x with | none => 0 | some y => y.1)
noncomputable def api_Number_fun : Fun := ⟨[.err 51 37], [.v (.int .i64)], fun x => api_Number_F x.1⟩
theorem api_Number_ok : FunOk Tryd.prog 14 api_Number_fun := number_ok
/-! ### boustrophedon/boustrophedonlaw02.Told -/
noncomputable def law02_Told_T (e0 : Option (Int × ByteArray × Int)) (want1 : Int) (where2 : ByteArray) (at3 : Int) : Tr Bool :=
  .br (want1 == 0) (
    .pure e0.isNone) (
    .bnd (api_Place_F e0) fun c_1 =>
    .bnd (api_Number_F e0) fun c_2 =>
    .br (c_2 == want1) (
      .br (c_1.1.toList == where2.toList) (
        .pure (c_1.2 == at3)) (
        .pure false)) (
      .pure false))
noncomputable def law02_Told_F (e0 : Option (Int × ByteArray × Int)) (want1 : Int) (where2 : ByteArray) (at3 : Int) : Option Bool := (law02_Told_T e0 want1 where2 at3).run
def law02_Told_L : List (Nat × LoopAnn) := []
noncomputable def law02_Told_C : List (Nat × Callee) := [(13, .plain api_Place_fun), (14, .plain api_Number_fun)]
noncomputable def law02_Told_fun : Fun := ⟨[.err 51 37, .int .i64, .str, .int .i64], [.v .bool], fun x => law02_Told_F x.1 x.2.1 x.2.2.1 x.2.2.2.1⟩
theorem law02_Told_ev (x : Tys.I [.err 51 37, .int .i64, .str, .int .i64]) : evFun G0 (fun f => olook f law02_Told_C) ⟨[], [], [], [], [], []⟩ (fun i => olook i law02_Told_L) Tryd.f9 [.err 51 37, .int .i64, .str, .int .i64] [.v .bool] x = law02_Told_T x.1 x.2.1 x.2.2.1 x.2.2.2.1 := by kernel_rfl
theorem law02_Told_ok : FunOk Tryd.prog 9 law02_Told_fun := evFun_ok mixed ctx0 (cons_calls (fb := .plain api_Place_fun) api_Place_ok (fun h => by cases h) (cons_calls (fb := .plain api_Number_fun) api_Number_ok (fun h => by cases h) (no_calls))) Tryd.func9 (by kernel_rfl) _ (fun x => congrArg Tr.run (law02_Told_ev x)) (by kernel_rfl) (by kernel_rfl)
/-! ### boustrophedon/boustrophedonlaw23.FillErrors -/
noncomputable def law23_FillErrors_T (ws0 : List Int) (ns1 : List Int) (more2 : Int) (width3 : Int) : Tr Bool :=
  .bnd law23_awake_F fun c_1 =>
  .br (!c_1) (
    .pure false) (
    .bnd (law22_Widths_F ws0) fun c_2 =>
    .bnd (law19_Classes_F ns1) fun c_3 =>
    .bnd (measure_Of_F c_2 c_3) fun c_4 =>
    .bnd (mk 17592186044416 0 (IntKind.i64.wrap more2)) fun r_5 =>
    .bnd (fill_Lines_F c_4 r_5 width3) fun c_6 =>
    .br (decide (width3 < 1)) (
      .br ((c_6.1.length : Int) == 0) (
        .bnd (law02_Told_F c_6.2 2 (ByteArray.mk #[119, 105, 100, 116, 104]) width3) fun c_7 =>
        .pure c_7) (
        .pure false)) (
      .bnd (measure_Ruler_Count_F c_4) fun c_8 =>
      .br ((r_5.length : Int) != (IntKind.i64.wrap (c_8 + 1))) (
        .br ((c_6.1.length : Int) == 0) (
          .bnd (law02_Told_F c_6.2 6 (ByteArray.mk #[115, 116, 97, 116, 117, 115]) (r_5.length : Int)) fun c_9 =>
          .pure c_9) (
          .pure false)) (
        .pure c_6.2.isNone)))
noncomputable def law23_FillErrors_F (ws0 : List Int) (ns1 : List Int) (more2 : Int) (width3 : Int) : Option Bool := (law23_FillErrors_T ws0 ns1 more2 width3).run
def law23_FillErrors_L : List (Nat × LoopAnn) := []
noncomputable def law23_FillErrors_C : List (Nat × Callee) := [(4, .plain law23_awake_fun), (6, .plain law22_Widths_fun), (7, .plain law19_Classes_fun), (5, .plain measure_Of_fun), (8, .plain fill_Lines_fun), (9, .plain law02_Told_fun), (10, .plain measure_Ruler_Count_fun)]
noncomputable def law23_FillErrors_fun : Fun := ⟨[.sl (.int .u8), .sl (.int .u8), .int .u8, .int .i64], [.v .bool], fun x => law23_FillErrors_F x.1 x.2.1 x.2.2.1 x.2.2.2.1⟩
theorem law23_FillErrors_ev (x : Tys.I [.sl (.int .u8), .sl (.int .u8), .int .u8, .int .i64]) : evFun G0 (fun f => olook f law23_FillErrors_C) ⟨[], [], [], [], [], []⟩ (fun i => olook i law23_FillErrors_L) Tryd.f3 [.sl (.int .u8), .sl (.int .u8), .int .u8, .int .i64] [.v .bool] x = law23_FillErrors_T x.1 x.2.1 x.2.2.1 x.2.2.2.1 := by kernel_rfl
theorem law23_FillErrors_ok : FunOk Tryd.prog 3 law23_FillErrors_fun := evFun_ok mixed ctx0 (cons_calls (fb := .plain law23_awake_fun) law23_awake_ok (fun h => by cases h) (cons_calls (fb := .plain law22_Widths_fun) law22_Widths_ok (fun h => by cases h) (cons_calls (fb := .plain law19_Classes_fun) law19_Classes_ok (fun h => by cases h) (cons_calls (fb := .plain measure_Of_fun) measure_Of_ok (fun h => by cases h) (cons_calls (fb := .plain fill_Lines_fun) fill_Lines_ok (fun h => by cases h) (cons_calls (fb := .plain law02_Told_fun) law02_Told_ok (fun h => by cases h) (cons_calls (fb := .plain measure_Ruler_Count_fun) measure_Ruler_Count_ok (fun h => by cases h) (no_calls)))))))) Tryd.func3 (by kernel_rfl) _ (fun x => congrArg Tr.run (law23_FillErrors_ev x)) (by kernel_rfl) (by kernel_rfl)
end Go.Proofs.YtafomgonecamlaaDoor
