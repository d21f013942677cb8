/-
  The plain readings of the functions of this seat, by program; each is tied to the loaded function.
-/
import Derived.Test.YthcliopepcdnlaaEvErr
import Derived.Test.YthcliopepcdnlaaChecked
namespace Go.Proofs.Ythcliopepcdnlaa
set_option maxRecDepth 100000
set_option linter.unusedVariables false

def G0 : Ctx := { ty := [(3, .int .i64), (4, .bool), (5, .int .u8), (22, .sl (.int .u8)), (24, .sl (.int .u8)), (26, .int .u8), (29, .err 65 60), (32, .int .i64)], sls := [(22, ⟨5, .int .u8, 140737488355328⟩), (24, ⟨26, .int .u8, 140737488355328⟩)], eqs := [], enos := [60] }
theorem mixed : Try.prog.follows .mixedOrders = true := by kernel_rfl
theorem ctx0 : CtxOk Try.prog G0 := ctx_ok (by kernel_rfl)
theorem no_calls {Λ : List Nat} : ∀ f fa, olook f ([] : List (Nat × Callee)) = some fa → CalleeOk Try.prog f fa ∧ (fa.isPlain = false → inList f Λ = true) := fun _ _ h => by cases h
theorem cons_calls {Λ : List Nat} {k : Nat} {fb : Callee} {l : List (Nat × Callee)} (h : CalleeOk Try.prog k fb) (hi : fb.isPlain = false → inList k Λ = true) (hl : ∀ f fa, olook f l = some fa → CalleeOk Try.prog f fa ∧ (fa.isPlain = false → inList f Λ = true)) : ∀ f fa, olook f ((k, fb) :: l) = some fa → CalleeOk Try.prog f fa ∧ (fa.isPlain = false → inList f Λ = true) := by
  intro f fa hf
  rw [olook_cons] at hf
  split at hf
  · rename_i e; subst e; cases hf; exact ⟨h, hi⟩
  · exact hl f fa hf

/-! ### boustrophedon/bidic.Strong -/
noncomputable def bidic_Strong_T (c0 : Int) : Tr Bool :=
  .br (c0 == 0) (
    .pure true) (
    .br (c0 == 1) (
      .pure true) (
      .pure (c0 == 2)))
noncomputable def bidic_Strong_F (c0 : Int) : Option Bool := (bidic_Strong_T c0).run
def bidic_Strong_L : List (Nat × LoopAnn) := []
noncomputable def bidic_Strong_C : List (Nat × Callee) := []
noncomputable def bidic_Strong_fun : Fun := ⟨[.int .u8], [.v .bool], fun x => bidic_Strong_F x.1⟩
theorem bidic_Strong_ev (x : Tys.I [.int .u8]) : evFun G0 (fun f => olook f bidic_Strong_C) ⟨[], [], []⟩ (fun i => olook i bidic_Strong_L) Try.f13 [.int .u8] [.v .bool] x = bidic_Strong_T x.1 := by kernel_rfl
theorem bidic_Strong_ok : FunOk Try.prog 13 bidic_Strong_fun := evFun_ok mixed ctx0 (no_calls) Try.func13 (by kernel_rfl) _ (fun x => congrArg Tr.run (bidic_Strong_ev x)) (by kernel_rfl) (by kernel_rfl)
/-! ### boustrophedon/bidic.Isolate -/
noncomputable def bidic_Isolate_T (c0 : Int) : Tr Bool :=
  .br (c0 == 19) (
    .pure true) (
    .br (c0 == 20) (
      .pure true) (
      .pure (c0 == 21)))
noncomputable def bidic_Isolate_F (c0 : Int) : Option Bool := (bidic_Isolate_T c0).run
def bidic_Isolate_L : List (Nat × LoopAnn) := []
noncomputable def bidic_Isolate_C : List (Nat × Callee) := []
noncomputable def bidic_Isolate_fun : Fun := ⟨[.int .u8], [.v .bool], fun x => bidic_Isolate_F x.1⟩
theorem bidic_Isolate_ev (x : Tys.I [.int .u8]) : evFun G0 (fun f => olook f bidic_Isolate_C) ⟨[], [], []⟩ (fun i => olook i bidic_Isolate_L) Try.f14 [.int .u8] [.v .bool] x = bidic_Isolate_T x.1 := by kernel_rfl
theorem bidic_Isolate_ok : FunOk Try.prog 14 bidic_Isolate_fun := evFun_ok mixed ctx0 (no_calls) Try.func14 (by kernel_rfl) _ (fun x => congrArg Tr.run (bidic_Isolate_ev x)) (by kernel_rfl) (by kernel_rfl)
/-! ### boustrophedon/base.strong -/
noncomputable def base_strong_T (c0 : Int) : Tr Int :=
  .br (c0 == 0) (
    .pure 0) (
    .pure 1)
noncomputable def base_strong_F (c0 : Int) : Option Int := (base_strong_T c0).run
def base_strong_L : List (Nat × LoopAnn) := []
noncomputable def base_strong_C : List (Nat × Callee) := []
noncomputable def base_strong_fun : Fun := ⟨[.int .u8], [.v (.int .i64)], fun x => base_strong_F x.1⟩
theorem base_strong_ev (x : Tys.I [.int .u8]) : evFun G0 (fun f => olook f base_strong_C) ⟨[], [], []⟩ (fun i => olook i base_strong_L) Try.f30 [.int .u8] [.v (.int .i64)] x = base_strong_T x.1 := by kernel_rfl
theorem base_strong_ok : FunOk Try.prog 30 base_strong_fun := evFun_ok mixed ctx0 (no_calls) Try.func30 (by kernel_rfl) _ (fun x => congrArg Tr.run (base_strong_ev x)) (by kernel_rfl) (by kernel_rfl)
/-! ### boustrophedon/base.First -/
noncomputable def base_First_L3 (inside1 : Bool) (other2 : Int) (depth7 : Int) (t10 : List Int) (t11 : Int) (t12 : Int) : Tr (Lap (Bool × Int × Int × List Int × Int × Int) (Sum Int Int)) :=
  .br (decide (t12 < t11)) (
    .bnd (idx t10 t12) fun x_1 =>
    .bnd (bidic_Isolate_F x_1) fun c_2 =>
    .br c_2 (
      .pure (.next (inside1, other2, IntKind.i64.wrap (depth7 + 1), t10, t11, IntKind.i64.wrap (t12 + 1)))) (
      .br (x_1 == 22) (
        .br (decide (depth7 > 0)) (
          .pure (.next (inside1, other2, IntKind.i64.wrap (depth7 - 1), t10, t11, IntKind.i64.wrap (t12 + 1)))) (
          .br (x_1 == 22) (
            .br inside1 (
              .pure (.done (.inr other2))) (
              .bnd (bidic_Strong_F x_1) fun c_3 =>
              .br c_3 (
                .br (depth7 == 0) (
                  .bnd (base_strong_F x_1) fun c_4 =>
                  .pure (.done (.inr c_4))) (
                  .pure (.next (inside1, other2, depth7, t10, t11, IntKind.i64.wrap (t12 + 1))))) (
                .pure (.next (inside1, other2, depth7, t10, t11, IntKind.i64.wrap (t12 + 1)))))) (
            .bnd (bidic_Strong_F x_1) fun c_5 =>
            .br c_5 (
              .br (depth7 == 0) (
                .bnd (base_strong_F x_1) fun c_6 =>
                .pure (.done (.inr c_6))) (
                .pure (.next (inside1, other2, depth7, t10, t11, IntKind.i64.wrap (t12 + 1))))) (
              .pure (.next (inside1, other2, depth7, t10, t11, IntKind.i64.wrap (t12 + 1))))))) (
        .br (x_1 == 22) (
          .br inside1 (
            .pure (.done (.inr other2))) (
            .bnd (bidic_Strong_F x_1) fun c_7 =>
            .br c_7 (
              .br (depth7 == 0) (
                .bnd (base_strong_F x_1) fun c_8 =>
                .pure (.done (.inr c_8))) (
                .pure (.next (inside1, other2, depth7, t10, t11, IntKind.i64.wrap (t12 + 1))))) (
              .pure (.next (inside1, other2, depth7, t10, t11, IntKind.i64.wrap (t12 + 1)))))) (
          .bnd (bidic_Strong_F x_1) fun c_9 =>
          .br c_9 (
            .br (depth7 == 0) (
              .bnd (base_strong_F x_1) fun c_10 =>
              .pure (.done (.inr c_10))) (
              .pure (.next (inside1, other2, depth7, t10, t11, IntKind.i64.wrap (t12 + 1))))) (
            .pure (.next (inside1, other2, depth7, t10, t11, IntKind.i64.wrap (t12 + 1)))))))) (
    .pure (.done (.inl other2)))
noncomputable def base_First_T (cs0 : List Int) (inside1 : Bool) (other2 : Int) : Tr Int :=
  .alt (loopW (fun s => (base_First_L3 s.1 s.2.1 s.2.2.1 s.2.2.2.1 s.2.2.2.2.1 s.2.2.2.2.2).run) (inside1, other2, 0, cs0, (cs0.length : Int), 0)) (fun l_11 =>
    .pure l_11) (fun l_12 =>
    .pure l_12)
noncomputable def base_First_F (cs0 : List Int) (inside1 : Bool) (other2 : Int) : Option Int := (base_First_T cs0 inside1 other2).run
def base_First_L : List (Nat × LoopAnn) := [(3, { head := [.sv 1 false .bool, .sv 2 false (.int .i64), .sv 7 true (.int .i64), .sv 10 false (.sl (.int .u8)), .sv 11 true (.int .i64), .sv 12 true (.int .i64)], xid := 0, out := [.sv 2 false (.int .i64)], hasRet := true, res := [.sv 6 false (.int .i64)] })]
noncomputable def base_First_C : List (Nat × Callee) := [(14, .plain bidic_Isolate_fun), (13, .plain bidic_Strong_fun), (30, .plain base_strong_fun)]
noncomputable def base_First_fun : Fun := ⟨[.sl (.int .u8), .bool, .int .i64], [.v (.int .i64)], fun x => base_First_F x.1 x.2.1 x.2.2.1⟩
theorem base_First_ev (x : Tys.I [.sl (.int .u8), .bool, .int .i64]) : evFun G0 (fun f => olook f base_First_C) ⟨[], [], []⟩ (fun i => olook i base_First_L) Try.f16 [.sl (.int .u8), .bool, .int .i64] [.v (.int .i64)] x = base_First_T x.1 x.2.1 x.2.2.1 := by kernel_rfl
theorem base_First_ok : FunOk Try.prog 16 base_First_fun := evFun_ok mixed ctx0 (cons_calls (fb := .plain bidic_Isolate_fun) bidic_Isolate_ok (fun h => by cases h) (cons_calls (fb := .plain bidic_Strong_fun) bidic_Strong_ok (fun h => by cases h) (cons_calls (fb := .plain base_strong_fun) base_strong_ok (fun h => by cases h) (no_calls)))) Try.func16 (by kernel_rfl) _ (fun x => congrArg Tr.run (base_First_ev x)) (by kernel_rfl) (by kernel_rfl)
/-! ### boustrophedon/boustrophedonlaw10.awake -/
noncomputable def law10_awake_T : Tr Bool :=
  .bnd (base_First_F ([13, 19, 0, 22, 1]) false 7) fun c_1 =>
  .bnd (base_First_F ([20, 1]) false 7) fun c_2 =>
  .bnd (base_First_F ([13, 22, 1]) true 7) fun c_3 =>
  .br (c_1 == 1) (
    .br (c_2 == 7) (
      .pure (c_3 == 7)) (
      .pure false)) (
    .pure false)
noncomputable def law10_awake_F : Option Bool := (law10_awake_T).run
def law10_awake_L : List (Nat × LoopAnn) := []
noncomputable def law10_awake_C : List (Nat × Callee) := [(16, .plain base_First_fun)]
noncomputable def law10_awake_fun : Fun := ⟨[], [.v .bool], fun _ => law10_awake_F⟩
theorem law10_awake_ev (x : Tys.I []) : evFun G0 (fun f => olook f law10_awake_C) ⟨[], [], []⟩ (fun i => olook i law10_awake_L) Try.f11 [] [.v .bool] x = law10_awake_T := by kernel_rfl
theorem law10_awake_ok : FunOk Try.prog 11 law10_awake_fun := evFun_ok mixed ctx0 (cons_calls (fb := .plain base_First_fun) base_First_ok (fun h => by cases h) (no_calls)) Try.func11 (by kernel_rfl) _ (fun x => congrArg Tr.run (law10_awake_ev x)) (by kernel_rfl) (by kernel_rfl)
/-! ### boustrophedon/boustrophedonlaw08.Classes -/
noncomputable def law08_Classes_L3 (ns0 : List Int) (out3 : List Int) (k4 : Int) : Tr (Lap (List Int × List Int × Int) (List Int)) :=
  .br (decide (k4 < (ns0.length : Int))) (
    .bnd (idx ns0 k4) fun x_1 =>
    .bnd (app 140737488355328 out3 ([x_1.tmod 23])) fun r_2 =>
    .pure (.next (ns0, r_2, IntKind.i64.wrap (k4 + 1)))) (
    .pure (.done out3))
noncomputable def law08_Classes_T (ns0 : List Int) : Tr (List Int) :=
  .bnd (loopW (fun s => (law08_Classes_L3 s.1 s.2.1 s.2.2).run) (ns0, [], 0)) fun l_3 =>
  .pure l_3
noncomputable def law08_Classes_F (ns0 : List Int) : Option (List Int) := (law08_Classes_T ns0).run
def law08_Classes_L : List (Nat × LoopAnn) := [(3, { head := [.sv 0 false (.sl (.int .u8)), .srow 3 1000003 26 true (.int .u8), .sv 4 true (.int .i64)], xid := 0, out := [.srow 3 1000003 26 true (.int .u8)], hasRet := false, res := [] })]
noncomputable def law08_Classes_C : List (Nat × Callee) := []
noncomputable def law08_Classes_fun : Fun := ⟨[.sl (.int .u8)], [.row 26 (.int .u8)], fun x => law08_Classes_F x.1⟩
theorem law08_Classes_ev (x : Tys.I [.sl (.int .u8)]) : evFun G0 (fun f => olook f law08_Classes_C) ⟨[], [], []⟩ (fun i => olook i law08_Classes_L) Try.f12 [.sl (.int .u8)] [.row 26 (.int .u8)] x = law08_Classes_T x.1 := by kernel_rfl
theorem law08_Classes_ok : FunOk Try.prog 12 law08_Classes_fun := evFun_ok mixed ctx0 (no_calls) Try.func12 (by kernel_rfl) _ (fun x => congrArg Tr.run (law08_Classes_ev x)) (by kernel_rfl) (by kernel_rfl)
/-! ### boustrophedon/api.Wrap -/
noncomputable def api_Wrap_F (e : Int) (s : ByteArray) (n : Int) : Option (Option (Int × ByteArray × Int)) := some (some (e, s, n))
noncomputable def api_Wrap_fun : Fun := ⟨[.eno 60, .str, .int .i64], [.v (.err 65 60)], fun x => api_Wrap_F x.1 x.2.1 x.2.2.1⟩
theorem api_Wrap_ok : FunOk Try.prog 29 api_Wrap_fun := wrap_ok (tF := 67) ⟨_, _, Try.func29, by kernel_rfl, rfl⟩ (fun k n s w => by
  go_enter Try.func29, Try.ntmps29
  go_wp2
  go_ret
  exact ⟨rfl, rfl⟩)
/-! ### boustrophedon/base.Level -/
noncomputable def base_Level_T (cs0 : List Int) (d1 : Int) : Tr (Int × Option (Int × ByteArray × Int)) :=
  .br (d1 == 0) (
    .bnd (base_First_F cs0 false 0) fun c_1 =>
    .pure (c_1, none)) (
    .br (d1 == 1) (
      .pure (0, none)) (
      .br (d1 == 2) (
        .pure (1, none)) (
        .bnd (api_Wrap_F 3 (ByteArray.mk #[100, 105, 114, 101, 99, 116, 105, 111, 110]) d1) fun c_2 =>
        .pure (0, c_2))))
noncomputable def base_Level_F (cs0 : List Int) (d1 : Int) : Option (Int × Option (Int × ByteArray × Int)) := (base_Level_T cs0 d1).run
def base_Level_L : List (Nat × LoopAnn) := []
noncomputable def base_Level_C : List (Nat × Callee) := [(16, .plain base_First_fun), (29, .plain api_Wrap_fun)]
noncomputable def base_Level_fun : Fun := ⟨[.sl (.int .u8), .int .i64], [.v (.int .i64), .v (.err 65 60)], fun x => base_Level_F x.1 x.2.1⟩
theorem base_Level_ev (x : Tys.I [.sl (.int .u8), .int .i64]) : evFun G0 (fun f => olook f base_Level_C) ⟨[], [], []⟩ (fun i => olook i base_Level_L) Try.f15 [.sl (.int .u8), .int .i64] [.v (.int .i64), .v (.err 65 60)] x = base_Level_T x.1 x.2.1 := by kernel_rfl
theorem base_Level_ok : FunOk Try.prog 15 base_Level_fun := evFun_ok mixed ctx0 (cons_calls (fb := .plain base_First_fun) base_First_ok (fun h => by cases h) (cons_calls (fb := .plain api_Wrap_fun) api_Wrap_ok (fun h => by cases h) (no_calls))) Try.func15 (by kernel_rfl) _ (fun x => congrArg Tr.run (base_Level_ev x)) (by kernel_rfl) (by kernel_rfl)
/-! ### boustrophedon/boustrophedonlaw10.BaseNeutral -/
noncomputable def law10_BaseNeutral_L6 (inside1 : Bool) (other2 : Int) (cs7 : List Int) (few8 : List Int) (t18 : Int) (t19 : Int) : Tr (Lap (Bool × Int × List Int × List Int × Int × Int) (Bool × Int × List Int × List Int)) :=
  .br (decide (t19 < t18)) (
    .bnd (idx cs7 t19) fun x_3 =>
    .bnd (bidic_Strong_F x_3) fun c_4 =>
    .br c_4 (
      .bnd (app 140737488355328 few8 ([x_3])) fun r_5 =>
      .pure (.next (inside1, other2, cs7, r_5, t18, IntKind.i64.wrap (t19 + 1)))) (
      .bnd (bidic_Isolate_F x_3) fun c_6 =>
      .br c_6 (
        .bnd (app 140737488355328 few8 ([x_3])) fun r_7 =>
        .pure (.next (inside1, other2, cs7, r_7, t18, IntKind.i64.wrap (t19 + 1)))) (
        .br (x_3 == 22) (
          .bnd (app 140737488355328 few8 ([x_3])) fun r_8 =>
          .pure (.next (inside1, other2, cs7, r_8, t18, IntKind.i64.wrap (t19 + 1)))) (
          .pure (.next (inside1, other2, cs7, few8, t18, IntKind.i64.wrap (t19 + 1))))))) (
    .pure (.done (inside1, other2, cs7, few8)))
noncomputable def law10_BaseNeutral_T (ns0 : List Int) (inside1 : Bool) (other2 : Int) : Tr Bool :=
  .bnd law10_awake_F fun c_1 =>
  .br (!c_1) (
    .pure false) (
    .bnd (law08_Classes_F ns0) fun c_2 =>
    .bnd (loopW (fun s => (law10_BaseNeutral_L6 s.1 s.2.1 s.2.2.1 s.2.2.2.1 s.2.2.2.2.1 s.2.2.2.2.2).run) (inside1, other2, c_2, [], (c_2.length : Int), 0)) fun l_9 =>
    .bnd (base_Level_F l_9.2.2.1 0) fun c_10 =>
    .bnd (base_First_F l_9.2.2.1 l_9.1 l_9.2.1) fun c_11 =>
    .bnd (base_First_F l_9.2.2.2 l_9.1 l_9.2.1) fun c_12 =>
    .br (c_11 == c_12) (
      .br c_10.2.isNone (
        .br (c_10.1 == 0) (
          .pure true) (
          .pure (c_10.1 == 1))) (
        .pure false)) (
      .pure false))
noncomputable def law10_BaseNeutral_F (ns0 : List Int) (inside1 : Bool) (other2 : Int) : Option Bool := (law10_BaseNeutral_T ns0 inside1 other2).run
def law10_BaseNeutral_L : List (Nat × LoopAnn) := [(6, { head := [.sv 1 false .bool, .sv 2 false (.int .i64), .srow 7 1000007 26 true (.int .u8), .srow 8 1000008 26 true (.int .u8), .sref 17 7 1000007, .sv 18 true (.int .i64), .sv 19 true (.int .i64)], xid := 0, out := [.sv 1 false .bool, .sv 2 false (.int .i64), .srow 7 1000007 26 true (.int .u8), .srow 8 1000008 26 true (.int .u8)], hasRet := false, res := [] })]
noncomputable def law10_BaseNeutral_C : List (Nat × Callee) := [(11, .plain law10_awake_fun), (12, .plain law08_Classes_fun), (13, .plain bidic_Strong_fun), (14, .plain bidic_Isolate_fun), (15, .plain base_Level_fun), (16, .plain base_First_fun)]
noncomputable def law10_BaseNeutral_fun : Fun := ⟨[.sl (.int .u8), .bool, .int .i64], [.v .bool], fun x => law10_BaseNeutral_F x.1 x.2.1 x.2.2.1⟩
theorem law10_BaseNeutral_ev (x : Tys.I [.sl (.int .u8), .bool, .int .i64]) : evFun G0 (fun f => olook f law10_BaseNeutral_C) ⟨[], [], []⟩ (fun i => olook i law10_BaseNeutral_L) Try.f3 [.sl (.int .u8), .bool, .int .i64] [.v .bool] x = law10_BaseNeutral_T x.1 x.2.1 x.2.2.1 := by kernel_rfl
theorem law10_BaseNeutral_ok : FunOk Try.prog 3 law10_BaseNeutral_fun := evFun_ok mixed ctx0 (cons_calls (fb := .plain law10_awake_fun) law10_awake_ok (fun h => by cases h) (cons_calls (fb := .plain law08_Classes_fun) law08_Classes_ok (fun h => by cases h) (cons_calls (fb := .plain bidic_Strong_fun) bidic_Strong_ok (fun h => by cases h) (cons_calls (fb := .plain bidic_Isolate_fun) bidic_Isolate_ok (fun h => by cases h) (cons_calls (fb := .plain base_Level_fun) base_Level_ok (fun h => by cases h) (cons_calls (fb := .plain base_First_fun) base_First_ok (fun h => by cases h) (no_calls))))))) Try.func3 (by kernel_rfl) _ (fun x => congrArg Tr.run (law10_BaseNeutral_ev x)) (by kernel_rfl) (by kernel_rfl)
end Go.Proofs.Ythcliopepcdnlaa
