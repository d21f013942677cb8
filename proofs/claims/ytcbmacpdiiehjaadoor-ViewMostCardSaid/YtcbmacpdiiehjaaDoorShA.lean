/-
  The plain readings of the functions of this seat, by program; each is tied to the loaded function.
-/
import Derived.Test.YtcbmacpdiiehjaaDoorEvTold2
import Derived.Test.YtcbmacpdiiehjaaDoorChecked
namespace Go.Proofs.YtcbmacpdiiehjaaDoor
set_option maxRecDepth 100000
set_option linter.unusedVariables false

def G0 : Ctx := { ty := [(3, .int .i64), (4, .bool), (5, .int .u8), (9, .str), (21, .int .i32), (22, .sl (.int .u8)), (23, .int .i16), (25, .sl (.int .i32)), (26, .sl (.int .i64)), (30, .sl (.st (.pair (.sl (.int .i32)) (.pair (.int .i64) (.int .i64))))), (32, .err 48 36), (36, .int .i64), (39, .st (.pair (.sl (.int .i32)) (.pair (.int .i64) (.int .i64))))], sls := [(22, ⟨5, .int .u8, 140737488355328⟩), (25, ⟨21, .int .i32, 35184372088832⟩), (26, ⟨3, .int .i64, 17592186044416⟩), (30, ⟨39, .st (.pair (.sl (.int .i32)) (.pair (.int .i64) (.int .i64))), 3518437208883⟩)], eqs := [], enos := [36] }
theorem mixed : Tryd.prog.follows .mixedOrders = true := by kernel_rfl
theorem ctx0 : CtxOk Tryd.prog G0 := ctx_ok (by kernel_rfl)
theorem no_calls {Λ : List Nat} : ∀ f fa, olook f ([] : List (Nat × Callee)) = some fa → CalleeOk Tryd.prog f fa ∧ (fa.isPlain = false → inList f Λ = true) := fun _ _ h => by cases h
theorem cons_calls {Λ : List Nat} {k : Nat} {fb : Callee} {l : List (Nat × Callee)} (h : CalleeOk Tryd.prog k fb) (hi : fb.isPlain = false → inList k Λ = true) (hl : ∀ f fa, olook f l = some fa → CalleeOk Tryd.prog f fa ∧ (fa.isPlain = false → inList f Λ = true)) : ∀ f fa, olook f ((k, fb) :: l) = some fa → CalleeOk Tryd.prog f fa ∧ (fa.isPlain = false → inList f Λ = true) := by
  intro f fa hf
  rw [olook_cons] at hf
  split at hf
  · rename_i e; subst e; cases hf; exact ⟨h, hi⟩
  · exact hl f fa hf

theorem pc {Λ : List Nat} {k : Nat} {fa : Fun} {l : List (Nat × Callee)} (h : FunOk Tryd.prog k fa) (hl : ∀ f fa, olook f l = some fa → CalleeOk Tryd.prog f fa ∧ (fa.isPlain = false → inList f Λ = true)) : ∀ f fb, olook f ((k, .plain fa) :: l) = some fb → CalleeOk Tryd.prog f fb ∧ (fb.isPlain = false → inList f Λ = true) := cons_calls (fb := .plain fa) h (fun h => by cases h) hl
/-! ### boustrophedon/api.Wrap -/
noncomputable def api_Wrap_F (e : Int) (s : ByteArray) (n : Int) : Option (Option (Int × ByteArray × Int)) := some (some (e, s, n))
noncomputable def api_Wrap_fun : Fun := ⟨[.eno 36, .str, .int .i64], [.v (.err 48 36)], fun x => api_Wrap_F x.1 x.2.1 x.2.2.1⟩
theorem api_Wrap_ok : FunOk Tryd.prog 11 api_Wrap_fun := wrap_ok (tF := 50) ⟨_, _, Tryd.func11, by kernel_rfl, rfl⟩ (fun k n s w => by
  go_enter Tryd.func11, Tryd.ntmps11
  go_wp2
  go_ret
  exact ⟨rfl, rfl⟩)
/-! ### boustrophedon/view.blanks -/
noncomputable def view_blanks_L3 (row3 : List (List Int × Int × Int)) (t8 : Int) (t9 : Int) : Tr (Lap ((List (List Int × Int × Int)) × Int × Int) (List (List Int × Int × Int))) :=
  .br (decide (t9 < t8)) (
    .bnd (idx row3 t9) fun x_2 =>
    .pure (.next (row3.set (Int.toNat t9) ([32], ((-1) : Int), (0 : Int)), t8, IntKind.i64.wrap (t9 + 1)))) (
    .pure (.done row3))
noncomputable def view_blanks_T (count0 : Int) : Tr (List (List Int × Int × Int)) :=
  .bnd (mk 3518437208883 ([], (0, 0)) count0) fun r_1 =>
  .bnd (loopW (fun s => (view_blanks_L3 s.1 s.2.1 s.2.2).run) (r_1, (r_1.length : Int), 0)) fun l_3 =>
  .pure l_3
noncomputable def view_blanks_F (count0 : Int) : Option (List (List Int × Int × Int)) := (view_blanks_T count0).run
def view_blanks_L : List (Nat × LoopAnn) := [(3, { head := [.srow 3 1000003 39 true (.st (.pair (.sl (.int .i32)) (.pair (.int .i64) (.int .i64)))), .sv 8 true (.int .i64), .sv 9 true (.int .i64)], xid := 0, out := [.srow 3 1000003 39 true (.st (.pair (.sl (.int .i32)) (.pair (.int .i64) (.int .i64))))], hasRet := false, res := [] })]
noncomputable def view_blanks_C : List (Nat × Callee) := []
noncomputable def view_blanks_fun : Fun := ⟨[.int .i64], [.row 39 (.st (.pair (.sl (.int .i32)) (.pair (.int .i64) (.int .i64))))], fun x => view_blanks_F x.1⟩
theorem view_blanks_ev (x : Tys.I [.int .i64]) : evFun G0 (fun f => olook f view_blanks_C) ⟨[], [], [], [], [], []⟩ (fun i => olook i view_blanks_L) Tryd.f12 [.int .i64] [.row 39 (.st (.pair (.sl (.int .i32)) (.pair (.int .i64) (.int .i64))))] x = view_blanks_T x.1 := by kernel_rfl
theorem view_blanks_ok : FunOk Tryd.prog 12 view_blanks_fun := evFun_ok mixed ctx0 (no_calls) Tryd.func12 (by kernel_rfl) _ (fun x => congrArg Tr.run (view_blanks_ev x)) (by kernel_rfl) (by kernel_rfl)
end Go.Proofs.YtcbmacpdiiehjaaDoor
