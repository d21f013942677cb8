/-
  The plain readings of the functions of this seat, by program; each is tied to the loaded function.
-/
import Derived.Test.YtgpmfpigldkgfaaEvMainL
import Derived.Test.YtgpmfpigldkgfaaChecked
namespace Go.Proofs.Ytgpmfpigldkgfaa
set_option maxRecDepth 100000
set_option linter.unusedVariables false

def G0 : Ctx := { ty := [(3, .int .i64), (4, .bool), (5, .int .u8), (22, .sl (.int .u8)), (24, .sl (.int .u8)), (26, .int .u8), (30, .sl (.int .i64))], sls := [(22, ⟨5, .int .u8, 140737488355328⟩), (24, ⟨26, .int .u8, 140737488355328⟩), (30, ⟨3, .int .i64, 17592186044416⟩)], eqs := [] }
theorem mixed : Try.prog.follows .mixedOrders = true := by kernel_rfl
theorem ctx0 : CtxOk Try.prog G0 := ctx_ok (by kernel_rfl)
theorem no_calls {Λ : List Nat} : ∀ f fa, olook f ([] : List (Nat × Callee)) = some fa → CalleeOk Try.prog f fa ∧ (fa.isPlain = false → inList f Λ = true) := fun _ _ h => by cases h
theorem cons_calls {Λ : List Nat} {k : Nat} {fb : Callee} {l : List (Nat × Callee)} (h : CalleeOk Try.prog k fb) (hi : fb.isPlain = false → inList k Λ = true) (hl : ∀ f fa, olook f l = some fa → CalleeOk Try.prog f fa ∧ (fa.isPlain = false → inList f Λ = true)) : ∀ f fa, olook f ((k, fb) :: l) = some fa → CalleeOk Try.prog f fa ∧ (fa.isPlain = false → inList f Λ = true) := by
  intro f fa hf
  rw [olook_cons] at hf
  split at hf
  · rename_i e; subst e; cases hf; exact ⟨h, hi⟩
  · exact hl f fa hf

/-! ### slices.Clone[[]boustrophedon/bidic.Class,boustrophedon/bidic.Class] -/
noncomputable def bidic_Class__T (s0 : List Int) : Tr (List Int) :=
  .bnd (app 140737488355328 ([]) s0) fun r_1 =>
  .pure r_1
noncomputable def bidic_Class__F (s0 : List Int) : Option (List Int) := (bidic_Class__T s0).run
def bidic_Class__L : List (Nat × LoopAnn) := []
noncomputable def bidic_Class__C : List (Nat × Callee) := []
noncomputable def bidic_Class__fun : Fun := ⟨[.sl (.int .u8)], [.row 26 (.int .u8)], fun x => bidic_Class__F x.1⟩
noncomputable def bidic_Class__T0 : Tr (List Int) :=
  .pure ([])
theorem bidic_Class__ev0 : evFunS G0 (fun f => olook f bidic_Class__C) ⟨[], [], []⟩ (fun i => olook i bidic_Class__L) Try.f14 [.nil] [.row 26 (.int .u8)] = bidic_Class__T0 := by kernel_rfl
theorem bidic_Class__ev1 (s0 : List Int) : evFunS G0 (fun f => olook f bidic_Class__C) ⟨[], [], []⟩ (fun i => olook i bidic_Class__L) Try.f14 [.nn false (.int .u8) s0] [.row 26 (.int .u8)] = bidic_Class__T s0 := by kernel_rfl
theorem bidic_Class__nil (r : List Int) (h : bidic_Class__F [] = some r) : bidic_Class__T0.run = some r := by
  simp [bidic_Class__F, bidic_Class__T, bidic_Class__T0, app, mk, Tr.run] at h ⊢
  exact h
theorem bidic_Class__ok : FunOk Try.prog 14 bidic_Class__fun := evFunN_ok (A := ⟨[], [], []⟩) (L := fun i => olook i bidic_Class__L) mixed ctx0 (no_calls) Try.func14 (by kernel_rfl) _ (fun r h => (congrArg Tr.run bidic_Class__ev0).trans (bidic_Class__nil r h)) (fun s0 r h => (congrArg Tr.run (bidic_Class__ev1 s0)).trans h) (by kernel_rfl)
/-! ### boustrophedon/bidic.Isolate -/
noncomputable def bidic_Isolate_T (c0 : Int) : Tr Bool :=
  .br (c0 == 19) (
    .pure true) (
    .br (c0 == 20) (
      .pure true) (
      .pure (c0 == 21)))
noncomputable def bidic_Isolate_F (c0 : Int) : Option Bool := (bidic_Isolate_T c0).run
def bidic_Isolate_L : List (Nat × LoopAnn) := []
noncomputable def bidic_Isolate_C : List (Nat × Callee) := []
noncomputable def bidic_Isolate_fun : Fun := ⟨[.int .u8], [.v .bool], fun x => bidic_Isolate_F x.1⟩
theorem bidic_Isolate_ev (x : Tys.I [.int .u8]) : evFun G0 (fun f => olook f bidic_Isolate_C) ⟨[], [], []⟩ (fun i => olook i bidic_Isolate_L) Try.f29 [.int .u8] [.v .bool] x = bidic_Isolate_T x.1 := by kernel_rfl
theorem bidic_Isolate_ok : FunOk Try.prog 29 bidic_Isolate_fun := evFun_ok mixed ctx0 (no_calls) Try.func29 (by kernel_rfl) _ (fun x => congrArg Tr.run (bidic_Isolate_ev x)) (by kernel_rfl) (by kernel_rfl)
/-! ### boustrophedon/weak.marks -/
noncomputable def weak_marks_L2 (cs0 : List Int) (before4 : Int) (t9 : Int) (t10 : Int) : Tr (Lap (List Int × Int × Int × Int) (List Int)) :=
  .br (decide (t10 < t9)) (
    .bnd (idx cs0 t10) fun _ =>
    .bnd (idx cs0 t10) fun x_2 =>
    .br (x_2 == 8) (
      .bnd (idx cs0 t10) fun _ =>
      .bnd (idx cs0 t10) fun _ =>
      .bnd (bidic_Isolate_F before4) fun c_4 =>
      .br c_4 (
        .bnd (idx (cs0.set (Int.toNat t10) before4) t10) fun _ =>
        .bnd (idx (cs0.set (Int.toNat t10) before4) t10) fun _ =>
        .bnd (idx ((cs0.set (Int.toNat t10) before4).set (Int.toNat t10) 13) t10) fun _ =>
        .bnd (idx ((cs0.set (Int.toNat t10) before4).set (Int.toNat t10) 13) t10) fun x_7 =>
        .pure (.next ((cs0.set (Int.toNat t10) before4).set (Int.toNat t10) 13, x_7, t9, IntKind.i64.wrap (t10 + 1)))) (
        .br (before4 == 22) (
          .bnd (idx (cs0.set (Int.toNat t10) before4) t10) fun _ =>
          .bnd (idx (cs0.set (Int.toNat t10) before4) t10) fun _ =>
          .bnd (idx ((cs0.set (Int.toNat t10) before4).set (Int.toNat t10) 13) t10) fun _ =>
          .bnd (idx ((cs0.set (Int.toNat t10) before4).set (Int.toNat t10) 13) t10) fun x_10 =>
          .pure (.next ((cs0.set (Int.toNat t10) before4).set (Int.toNat t10) 13, x_10, t9, IntKind.i64.wrap (t10 + 1)))) (
          .bnd (idx (cs0.set (Int.toNat t10) before4) t10) fun _ =>
          .bnd (idx (cs0.set (Int.toNat t10) before4) t10) fun x_12 =>
          .pure (.next (cs0.set (Int.toNat t10) before4, x_12, t9, IntKind.i64.wrap (t10 + 1)))))) (
      .bnd (idx cs0 t10) fun _ =>
      .bnd (idx cs0 t10) fun x_14 =>
      .pure (.next (cs0, x_14, t9, IntKind.i64.wrap (t10 + 1))))) (
    .pure (.done cs0))
noncomputable def weak_marks_T (cs0 : List Int) (sos1 : Int) : Tr (List Int × Unit) :=
  .bnd (loopW (fun s => (weak_marks_L2 s.1 s.2.1 s.2.2.1 s.2.2.2).run) (cs0, sos1, (cs0.length : Int), 0)) fun l_15 =>
  .pure (l_15, ())
noncomputable def weak_marks_F (cs0 : List Int) (sos1 : Int) : Option (List Int × Unit) := (weak_marks_T cs0 sos1).run
def weak_marks_L : List (Nat × LoopAnn) := [(2, { head := [.slrow 0 26 (.int .u8), .sv 4 false (.int .u8), .slref 8, .sv 9 true (.int .i64), .sv 10 true (.int .i64)], xid := 0, out := [.slrow 0 26 (.int .u8)], hasRet := false, res := [] })]
noncomputable def weak_marks_C : List (Nat × Callee) := [(29, .plain bidic_Isolate_fun)]
noncomputable def weak_marks_fun : LFun := ⟨26, (.int .u8), [.int .u8], [], fun s x => weak_marks_F s x.1⟩
theorem weak_marks_ev (s : List Int) (x : Tys.I [.int .u8]) : evFunL G0 (fun f => olook f weak_marks_C) ⟨[], [], []⟩ (fun i => olook i weak_marks_L) Try.f15 26 (.int .u8) [.int .u8] [] s x = weak_marks_T s x.1 := by kernel_rfl
theorem weak_marks_ok : LentOk Try.prog 15 weak_marks_fun := evFunL_ok mixed ctx0 (cons_calls (fb := .plain bidic_Isolate_fun) bidic_Isolate_ok (fun h => by cases h) (no_calls)) Try.func15 (by kernel_rfl) rfl _ (fun s x => congrArg Tr.run (weak_marks_ev s x)) (by kernel_rfl)
/-! ### boustrophedon/bidic.Strong -/
noncomputable def bidic_Strong_T (c0 : Int) : Tr Bool :=
  .br (c0 == 0) (
    .pure true) (
    .br (c0 == 1) (
      .pure true) (
      .pure (c0 == 2)))
noncomputable def bidic_Strong_F (c0 : Int) : Option Bool := (bidic_Strong_T c0).run
def bidic_Strong_L : List (Nat × LoopAnn) := []
noncomputable def bidic_Strong_C : List (Nat × Callee) := []
noncomputable def bidic_Strong_fun : Fun := ⟨[.int .u8], [.v .bool], fun x => bidic_Strong_F x.1⟩
theorem bidic_Strong_ev (x : Tys.I [.int .u8]) : evFun G0 (fun f => olook f bidic_Strong_C) ⟨[], [], []⟩ (fun i => olook i bidic_Strong_L) Try.f30 [.int .u8] [.v .bool] x = bidic_Strong_T x.1 := by kernel_rfl
theorem bidic_Strong_ok : FunOk Try.prog 30 bidic_Strong_fun := evFun_ok mixed ctx0 (no_calls) Try.func30 (by kernel_rfl) _ (fun x => congrArg Tr.run (bidic_Strong_ev x)) (by kernel_rfl) (by kernel_rfl)
/-! ### boustrophedon/weak.arabicNumbers -/
noncomputable def weak_arabicNumbers_L2 (cs0 : List Int) (strong4 : Int) (t9 : Int) (t10 : Int) : Tr (Lap (List Int × Int × Int × Int) (List Int)) :=
  .br (decide (t10 < t9)) (
    .bnd (idx cs0 t10) fun _ =>
    .bnd (idx cs0 t10) fun x_2 =>
    .bnd (bidic_Strong_F x_2) fun c_3 =>
    .br c_3 (
      .br (x_2 == 3) (
        .br (x_2 == 2) (
          .bnd (idx cs0 t10) fun _ =>
          .bnd (idx cs0 t10) fun _ =>
          .pure (.next (cs0.set (Int.toNat t10) 6, x_2, t9, IntKind.i64.wrap (t10 + 1)))) (
          .pure (.next (cs0, x_2, t9, IntKind.i64.wrap (t10 + 1))))) (
        .pure (.next (cs0, x_2, t9, IntKind.i64.wrap (t10 + 1))))) (
      .br (x_2 == 3) (
        .br (strong4 == 2) (
          .bnd (idx cs0 t10) fun _ =>
          .bnd (idx cs0 t10) fun _ =>
          .pure (.next (cs0.set (Int.toNat t10) 6, strong4, t9, IntKind.i64.wrap (t10 + 1)))) (
          .pure (.next (cs0, strong4, t9, IntKind.i64.wrap (t10 + 1))))) (
        .pure (.next (cs0, strong4, t9, IntKind.i64.wrap (t10 + 1)))))) (
    .pure (.done cs0))
noncomputable def weak_arabicNumbers_T (cs0 : List Int) (sos1 : Int) : Tr (List Int × Unit) :=
  .bnd (loopW (fun s => (weak_arabicNumbers_L2 s.1 s.2.1 s.2.2.1 s.2.2.2).run) (cs0, sos1, (cs0.length : Int), 0)) fun l_6 =>
  .pure (l_6, ())
noncomputable def weak_arabicNumbers_F (cs0 : List Int) (sos1 : Int) : Option (List Int × Unit) := (weak_arabicNumbers_T cs0 sos1).run
def weak_arabicNumbers_L : List (Nat × LoopAnn) := [(2, { head := [.slrow 0 26 (.int .u8), .sv 4 false (.int .u8), .slref 8, .sv 9 true (.int .i64), .sv 10 true (.int .i64)], xid := 0, out := [.slrow 0 26 (.int .u8)], hasRet := false, res := [] })]
noncomputable def weak_arabicNumbers_C : List (Nat × Callee) := [(30, .plain bidic_Strong_fun)]
noncomputable def weak_arabicNumbers_fun : LFun := ⟨26, (.int .u8), [.int .u8], [], fun s x => weak_arabicNumbers_F s x.1⟩
theorem weak_arabicNumbers_ev (s : List Int) (x : Tys.I [.int .u8]) : evFunL G0 (fun f => olook f weak_arabicNumbers_C) ⟨[], [], []⟩ (fun i => olook i weak_arabicNumbers_L) Try.f16 26 (.int .u8) [.int .u8] [] s x = weak_arabicNumbers_T s x.1 := by kernel_rfl
theorem weak_arabicNumbers_ok : LentOk Try.prog 16 weak_arabicNumbers_fun := evFunL_ok mixed ctx0 (cons_calls (fb := .plain bidic_Strong_fun) bidic_Strong_ok (fun h => by cases h) (no_calls)) Try.func16 (by kernel_rfl) rfl _ (fun s x => congrArg Tr.run (weak_arabicNumbers_ev s x)) (by kernel_rfl)
/-! ### boustrophedon/weak.arabicLetters -/
noncomputable def weak_arabicLetters_L1 (cs0 : List Int) (t5 : Int) (t6 : Int) : Tr (Lap (List Int × Int × Int) (List Int)) :=
  .br (decide (t6 < t5)) (
    .bnd (idx cs0 t6) fun _ =>
    .bnd (idx cs0 t6) fun x_2 =>
    .br (x_2 == 2) (
      .bnd (idx cs0 t6) fun _ =>
      .bnd (idx cs0 t6) fun _ =>
      .pure (.next (cs0.set (Int.toNat t6) 1, t5, IntKind.i64.wrap (t6 + 1)))) (
      .pure (.next (cs0, t5, IntKind.i64.wrap (t6 + 1))))) (
    .pure (.done cs0))
noncomputable def weak_arabicLetters_T (cs0 : List Int) : Tr (List Int × Unit) :=
  .bnd (loopW (fun s => (weak_arabicLetters_L1 s.1 s.2.1 s.2.2).run) (cs0, (cs0.length : Int), 0)) fun l_4 =>
  .pure (l_4, ())
noncomputable def weak_arabicLetters_F (cs0 : List Int) : Option (List Int × Unit) := (weak_arabicLetters_T cs0).run
def weak_arabicLetters_L : List (Nat × LoopAnn) := [(1, { head := [.slrow 0 26 (.int .u8), .slref 4, .sv 5 true (.int .i64), .sv 6 true (.int .i64)], xid := 0, out := [.slrow 0 26 (.int .u8)], hasRet := false, res := [] })]
noncomputable def weak_arabicLetters_C : List (Nat × Callee) := []
noncomputable def weak_arabicLetters_fun : LFun := ⟨26, (.int .u8), [], [], fun s _ => weak_arabicLetters_F s⟩
theorem weak_arabicLetters_ev (s : List Int) (x : Tys.I []) : evFunL G0 (fun f => olook f weak_arabicLetters_C) ⟨[], [], []⟩ (fun i => olook i weak_arabicLetters_L) Try.f17 26 (.int .u8) [] [] s x = weak_arabicLetters_T s := by kernel_rfl
theorem weak_arabicLetters_ok : LentOk Try.prog 17 weak_arabicLetters_fun := evFunL_ok mixed ctx0 (no_calls) Try.func17 (by kernel_rfl) rfl _ (fun s x => congrArg Tr.run (weak_arabicLetters_ev s x)) (by kernel_rfl)
/-! ### boustrophedon/weak.joins -/
noncomputable def weak_joins_T (separator0 : Int) (number1 : Int) : Tr Bool :=
  .br (number1 == 3) (
    .br (separator0 == 4) (
      .pure true) (
      .pure (separator0 == 7))) (
    .br (number1 == 6) (
      .pure (separator0 == 7)) (
      .pure false))
noncomputable def weak_joins_F (separator0 : Int) (number1 : Int) : Option Bool := (weak_joins_T separator0 number1).run
def weak_joins_L : List (Nat × LoopAnn) := []
noncomputable def weak_joins_C : List (Nat × Callee) := []
noncomputable def weak_joins_fun : Fun := ⟨[.int .u8, .int .u8], [.v .bool], fun x => weak_joins_F x.1 x.2.1⟩
theorem weak_joins_ev (x : Tys.I [.int .u8, .int .u8]) : evFun G0 (fun f => olook f weak_joins_C) ⟨[], [], []⟩ (fun i => olook i weak_joins_L) Try.f31 [.int .u8, .int .u8] [.v .bool] x = weak_joins_T x.1 x.2.1 := by kernel_rfl
theorem weak_joins_ok : FunOk Try.prog 31 weak_joins_fun := evFun_ok mixed ctx0 (no_calls) Try.func31 (by kernel_rfl) _ (fun x => congrArg Tr.run (weak_joins_ev x)) (by kernel_rfl) (by kernel_rfl)
/-! ### boustrophedon/weak.separators -/
noncomputable def weak_separators_L2 (cs0 : List Int) (before4 : Int) (t9 : Int) (t10 : Int) : Tr (Lap (List Int × Int × Int × Int) (List Int)) :=
  .br (decide (t10 < t9)) (
    .bnd (idx cs0 t10) fun _ =>
    .bnd (idx cs0 t10) fun x_2 =>
    .br (decide ((IntKind.i64.wrap (t10 + 1)) < (cs0.length : Int))) (
      .bnd (idx cs0 (IntKind.i64.wrap (t10 + 1))) fun _ =>
      .bnd (idx cs0 (IntKind.i64.wrap (t10 + 1))) fun x_4 =>
      .br (x_4 == before4) (
        .bnd (weak_joins_F x_2 before4) fun c_5 =>
        .br c_5 (
          .bnd (idx cs0 t10) fun _ =>
          .bnd (idx cs0 t10) fun _ =>
          .bnd (idx (cs0.set (Int.toNat t10) before4) t10) fun _ =>
          .bnd (idx (cs0.set (Int.toNat t10) before4) t10) fun x_8 =>
          .pure (.next (cs0.set (Int.toNat t10) before4, x_8, t9, IntKind.i64.wrap (t10 + 1)))) (
          .bnd (idx cs0 t10) fun _ =>
          .bnd (idx cs0 t10) fun x_10 =>
          .pure (.next (cs0, x_10, t9, IntKind.i64.wrap (t10 + 1))))) (
        .bnd (idx cs0 t10) fun _ =>
        .bnd (idx cs0 t10) fun x_12 =>
        .pure (.next (cs0, x_12, t9, IntKind.i64.wrap (t10 + 1))))) (
      .bnd (idx cs0 t10) fun _ =>
      .bnd (idx cs0 t10) fun x_14 =>
      .pure (.next (cs0, x_14, t9, IntKind.i64.wrap (t10 + 1))))) (
    .pure (.done cs0))
noncomputable def weak_separators_T (cs0 : List Int) (sos1 : Int) : Tr (List Int × Unit) :=
  .bnd (loopW (fun s => (weak_separators_L2 s.1 s.2.1 s.2.2.1 s.2.2.2).run) (cs0, sos1, (cs0.length : Int), 0)) fun l_15 =>
  .pure (l_15, ())
noncomputable def weak_separators_F (cs0 : List Int) (sos1 : Int) : Option (List Int × Unit) := (weak_separators_T cs0 sos1).run
def weak_separators_L : List (Nat × LoopAnn) := [(2, { head := [.slrow 0 26 (.int .u8), .sv 4 false (.int .u8), .slref 8, .sv 9 true (.int .i64), .sv 10 true (.int .i64)], xid := 0, out := [.slrow 0 26 (.int .u8)], hasRet := false, res := [] })]
noncomputable def weak_separators_C : List (Nat × Callee) := [(31, .plain weak_joins_fun)]
noncomputable def weak_separators_fun : LFun := ⟨26, (.int .u8), [.int .u8], [], fun s x => weak_separators_F s x.1⟩
theorem weak_separators_ev (s : List Int) (x : Tys.I [.int .u8]) : evFunL G0 (fun f => olook f weak_separators_C) ⟨[], [], []⟩ (fun i => olook i weak_separators_L) Try.f18 26 (.int .u8) [.int .u8] [] s x = weak_separators_T s x.1 := by kernel_rfl
theorem weak_separators_ok : LentOk Try.prog 18 weak_separators_fun := evFunL_ok mixed ctx0 (cons_calls (fb := .plain weak_joins_fun) weak_joins_ok (fun h => by cases h) (no_calls)) Try.func18 (by kernel_rfl) rfl _ (fun s x => congrArg Tr.run (weak_separators_ev s x)) (by kernel_rfl)
/-! ### boustrophedon/weak.terminators -/
noncomputable def weak_terminators_L4 (cs0 : List Int) (before4 : Int) (from5 : Int) (to6 : Int) : Tr (Lap (List Int × Int × Int × Int) (List Int × Int × Int × Int)) :=
  .br (decide (to6 < (cs0.length : Int))) (
    .bnd (idx cs0 to6) fun _ =>
    .bnd (idx cs0 to6) fun x_2 =>
    .br (x_2 == 5) (
      .pure (.next (cs0, before4, from5, IntKind.i64.wrap (to6 + 1)))) (
      .pure (.done (cs0, before4, from5, to6)))) (
    .pure (.done (cs0, before4, from5, to6)))
noncomputable def weak_terminators_L8 (cs0 : List Int) (before4 : Int) (to6 : Int) (i7 : Int) : Tr (Lap (List Int × Int × Int × Int) (List Int × Int × Int)) :=
  .br (decide (i7 < to6)) (
    .bnd (idx cs0 i7) fun _ =>
    .bnd (idx cs0 i7) fun _ =>
    .pure (.next (cs0.set (Int.toNat i7) 3, before4, to6, IntKind.i64.wrap (i7 + 1)))) (
    .pure (.done (cs0, before4, to6)))
noncomputable def weak_terminators_L2 (cs0 : List Int) (before4 : Int) (from5 : Int) : Tr (Lap (List Int × Int × Int) (List Int)) :=
  .br (decide (from5 < (cs0.length : Int))) (
    .bnd (loopW (fun s => (weak_terminators_L4 s.1 s.2.1 s.2.2.1 s.2.2.2).run) (cs0, before4, from5, from5)) fun l_3 =>
    .br (l_3.2.1 == 3) (
      .bnd (loopW (fun s => (weak_terminators_L8 s.1 s.2.1 s.2.2.1 s.2.2.2).run) (l_3.1, l_3.2.1, l_3.2.2.2, l_3.2.2.1)) fun l_5 =>
      .br (decide (l_5.2.2 < (l_5.1.length : Int))) (
        .bnd (idx l_5.1 l_5.2.2) fun _ =>
        .bnd (idx l_5.1 l_5.2.2) fun x_7 =>
        .pure (.next (l_5.1, x_7, IntKind.i64.wrap (l_5.2.2 + 1)))) (
        .pure (.next (l_5.1, l_5.2.1, IntKind.i64.wrap (l_5.2.2 + 1))))) (
      .br (decide (l_3.2.2.2 < (l_3.1.length : Int))) (
        .bnd (idx l_3.1 l_3.2.2.2) fun _ =>
        .bnd (idx l_3.1 l_3.2.2.2) fun x_9 =>
        .br (x_9 == 3) (
          .bnd (loopW (fun s => (weak_terminators_L8 s.1 s.2.1 s.2.2.1 s.2.2.2).run) (l_3.1, l_3.2.1, l_3.2.2.2, l_3.2.2.1)) fun l_10 =>
          .br (decide (l_10.2.2 < (l_10.1.length : Int))) (
            .bnd (idx l_10.1 l_10.2.2) fun _ =>
            .bnd (idx l_10.1 l_10.2.2) fun x_12 =>
            .pure (.next (l_10.1, x_12, IntKind.i64.wrap (l_10.2.2 + 1)))) (
            .pure (.next (l_10.1, l_10.2.1, IntKind.i64.wrap (l_10.2.2 + 1))))) (
          .br (decide (l_3.2.2.2 < (l_3.1.length : Int))) (
            .bnd (idx l_3.1 l_3.2.2.2) fun _ =>
            .bnd (idx l_3.1 l_3.2.2.2) fun x_14 =>
            .pure (.next (l_3.1, x_14, IntKind.i64.wrap (l_3.2.2.2 + 1)))) (
            .pure (.next (l_3.1, l_3.2.1, IntKind.i64.wrap (l_3.2.2.2 + 1)))))) (
        .br (decide (l_3.2.2.2 < (l_3.1.length : Int))) (
          .bnd (idx l_3.1 l_3.2.2.2) fun _ =>
          .bnd (idx l_3.1 l_3.2.2.2) fun x_16 =>
          .pure (.next (l_3.1, x_16, IntKind.i64.wrap (l_3.2.2.2 + 1)))) (
          .pure (.next (l_3.1, l_3.2.1, IntKind.i64.wrap (l_3.2.2.2 + 1))))))) (
    .pure (.done cs0))
noncomputable def weak_terminators_T (cs0 : List Int) (sos1 : Int) : Tr (List Int × Unit) :=
  .bnd (loopW (fun s => (weak_terminators_L2 s.1 s.2.1 s.2.2).run) (cs0, sos1, 0)) fun l_17 =>
  .pure (l_17, ())
noncomputable def weak_terminators_F (cs0 : List Int) (sos1 : Int) : Option (List Int × Unit) := (weak_terminators_T cs0 sos1).run
def weak_terminators_L : List (Nat × LoopAnn) := [(4, { head := [.slrow 0 26 (.int .u8), .sv 4 false (.int .u8), .sv 5 true (.int .i64), .sv 6 true (.int .i64)], xid := 2, out := [.slrow 0 26 (.int .u8), .sv 4 false (.int .u8), .sv 5 true (.int .i64), .sv 6 true (.int .i64)], hasRet := false, res := [] }), (8, { head := [.slrow 0 26 (.int .u8), .sv 4 false (.int .u8), .sv 6 true (.int .i64), .sv 7 true (.int .i64)], xid := 4, out := [.slrow 0 26 (.int .u8), .sv 4 false (.int .u8), .sv 6 true (.int .i64)], hasRet := false, res := [] }), (2, { head := [.slrow 0 26 (.int .u8), .sv 4 false (.int .u8), .sv 5 true (.int .i64)], xid := 0, out := [.slrow 0 26 (.int .u8)], hasRet := false, res := [] })]
noncomputable def weak_terminators_C : List (Nat × Callee) := []
noncomputable def weak_terminators_fun : LFun := ⟨26, (.int .u8), [.int .u8], [], fun s x => weak_terminators_F s x.1⟩
theorem weak_terminators_ev (s : List Int) (x : Tys.I [.int .u8]) : evFunL G0 (fun f => olook f weak_terminators_C) ⟨[], [], []⟩ (fun i => olook i weak_terminators_L) Try.f19 26 (.int .u8) [.int .u8] [] s x = weak_terminators_T s x.1 := by kernel_rfl
theorem weak_terminators_ok : LentOk Try.prog 19 weak_terminators_fun := evFunL_ok mixed ctx0 (no_calls) Try.func19 (by kernel_rfl) rfl _ (fun s x => congrArg Tr.run (weak_terminators_ev s x)) (by kernel_rfl)
/-! ### boustrophedon/weak.leftovers -/
noncomputable def weak_leftovers_L1 (cs0 : List Int) (t5 : Int) (t6 : Int) : Tr (Lap (List Int × Int × Int) (List Int)) :=
  .br (decide (t6 < t5)) (
    .bnd (idx cs0 t6) fun _ =>
    .bnd (idx cs0 t6) fun x_2 =>
    .br (x_2 == 4) (
      .bnd (idx cs0 t6) fun _ =>
      .bnd (idx cs0 t6) fun _ =>
      .pure (.next (cs0.set (Int.toNat t6) 13, t5, IntKind.i64.wrap (t6 + 1)))) (
      .br (x_2 == 5) (
        .bnd (idx cs0 t6) fun _ =>
        .bnd (idx cs0 t6) fun _ =>
        .pure (.next (cs0.set (Int.toNat t6) 13, t5, IntKind.i64.wrap (t6 + 1)))) (
        .br (x_2 == 7) (
          .bnd (idx cs0 t6) fun _ =>
          .bnd (idx cs0 t6) fun _ =>
          .pure (.next (cs0.set (Int.toNat t6) 13, t5, IntKind.i64.wrap (t6 + 1)))) (
          .pure (.next (cs0, t5, IntKind.i64.wrap (t6 + 1))))))) (
    .pure (.done cs0))
noncomputable def weak_leftovers_T (cs0 : List Int) : Tr (List Int × Unit) :=
  .bnd (loopW (fun s => (weak_leftovers_L1 s.1 s.2.1 s.2.2).run) (cs0, (cs0.length : Int), 0)) fun l_6 =>
  .pure (l_6, ())
noncomputable def weak_leftovers_F (cs0 : List Int) : Option (List Int × Unit) := (weak_leftovers_T cs0).run
def weak_leftovers_L : List (Nat × LoopAnn) := [(1, { head := [.slrow 0 26 (.int .u8), .slref 4, .sv 5 true (.int .i64), .sv 6 true (.int .i64)], xid := 0, out := [.slrow 0 26 (.int .u8)], hasRet := false, res := [] })]
noncomputable def weak_leftovers_C : List (Nat × Callee) := []
noncomputable def weak_leftovers_fun : LFun := ⟨26, (.int .u8), [], [], fun s _ => weak_leftovers_F s⟩
theorem weak_leftovers_ev (s : List Int) (x : Tys.I []) : evFunL G0 (fun f => olook f weak_leftovers_C) ⟨[], [], []⟩ (fun i => olook i weak_leftovers_L) Try.f20 26 (.int .u8) [] [] s x = weak_leftovers_T s := by kernel_rfl
theorem weak_leftovers_ok : LentOk Try.prog 20 weak_leftovers_fun := evFunL_ok mixed ctx0 (no_calls) Try.func20 (by kernel_rfl) rfl _ (fun s x => congrArg Tr.run (weak_leftovers_ev s x)) (by kernel_rfl)
/-! ### boustrophedon/weak.latinNumbers -/
noncomputable def weak_latinNumbers_L2 (cs0 : List Int) (strong4 : Int) (t9 : Int) (t10 : Int) : Tr (Lap (List Int × Int × Int × Int) (List Int)) :=
  .br (decide (t10 < t9)) (
    .bnd (idx cs0 t10) fun _ =>
    .bnd (idx cs0 t10) fun x_2 =>
    .br (x_2 == 0) (
      .br (x_2 == 3) (
        .br (x_2 == 0) (
          .bnd (idx cs0 t10) fun _ =>
          .bnd (idx cs0 t10) fun _ =>
          .pure (.next (cs0.set (Int.toNat t10) 0, x_2, t9, IntKind.i64.wrap (t10 + 1)))) (
          .pure (.next (cs0, x_2, t9, IntKind.i64.wrap (t10 + 1))))) (
        .pure (.next (cs0, x_2, t9, IntKind.i64.wrap (t10 + 1))))) (
      .br (x_2 == 1) (
        .br (x_2 == 3) (
          .br (x_2 == 0) (
            .bnd (idx cs0 t10) fun _ =>
            .bnd (idx cs0 t10) fun _ =>
            .pure (.next (cs0.set (Int.toNat t10) 0, x_2, t9, IntKind.i64.wrap (t10 + 1)))) (
            .pure (.next (cs0, x_2, t9, IntKind.i64.wrap (t10 + 1))))) (
          .pure (.next (cs0, x_2, t9, IntKind.i64.wrap (t10 + 1))))) (
        .br (x_2 == 3) (
          .br (strong4 == 0) (
            .bnd (idx cs0 t10) fun _ =>
            .bnd (idx cs0 t10) fun _ =>
            .pure (.next (cs0.set (Int.toNat t10) 0, strong4, t9, IntKind.i64.wrap (t10 + 1)))) (
            .pure (.next (cs0, strong4, t9, IntKind.i64.wrap (t10 + 1))))) (
          .pure (.next (cs0, strong4, t9, IntKind.i64.wrap (t10 + 1))))))) (
    .pure (.done cs0))
noncomputable def weak_latinNumbers_T (cs0 : List Int) (sos1 : Int) : Tr (List Int × Unit) :=
  .bnd (loopW (fun s => (weak_latinNumbers_L2 s.1 s.2.1 s.2.2.1 s.2.2.2).run) (cs0, sos1, (cs0.length : Int), 0)) fun l_6 =>
  .pure (l_6, ())
noncomputable def weak_latinNumbers_F (cs0 : List Int) (sos1 : Int) : Option (List Int × Unit) := (weak_latinNumbers_T cs0 sos1).run
def weak_latinNumbers_L : List (Nat × LoopAnn) := [(2, { head := [.slrow 0 26 (.int .u8), .sv 4 false (.int .u8), .slref 8, .sv 9 true (.int .i64), .sv 10 true (.int .i64)], xid := 0, out := [.slrow 0 26 (.int .u8)], hasRet := false, res := [] })]
noncomputable def weak_latinNumbers_C : List (Nat × Callee) := []
noncomputable def weak_latinNumbers_fun : LFun := ⟨26, (.int .u8), [.int .u8], [], fun s x => weak_latinNumbers_F s x.1⟩
theorem weak_latinNumbers_ev (s : List Int) (x : Tys.I [.int .u8]) : evFunL G0 (fun f => olook f weak_latinNumbers_C) ⟨[], [], []⟩ (fun i => olook i weak_latinNumbers_L) Try.f21 26 (.int .u8) [.int .u8] [] s x = weak_latinNumbers_T s x.1 := by kernel_rfl
theorem weak_latinNumbers_ok : LentOk Try.prog 21 weak_latinNumbers_fun := evFunL_ok mixed ctx0 (no_calls) Try.func21 (by kernel_rfl) rfl _ (fun s x => congrArg Tr.run (weak_latinNumbers_ev s x)) (by kernel_rfl)
/-! ### boustrophedon/weak.Resolve -/
noncomputable def weak_Resolve_T (cs0 : List Int) (sos1 : Int) : Tr (List Int) :=
  .bnd (bidic_Class__F cs0) fun c_1 =>
  .bnd (weak_marks_F c_1 sos1) fun c_2 =>
  .bnd (weak_arabicNumbers_F c_2.1 sos1) fun c_3 =>
  .bnd (weak_arabicLetters_F c_3.1) fun c_4 =>
  .bnd (weak_separators_F c_4.1 sos1) fun c_5 =>
  .bnd (weak_terminators_F c_5.1 sos1) fun c_6 =>
  .bnd (weak_leftovers_F c_6.1) fun c_7 =>
  .bnd (weak_latinNumbers_F c_7.1 sos1) fun c_8 =>
  .pure c_8.1
noncomputable def weak_Resolve_F (cs0 : List Int) (sos1 : Int) : Option (List Int) := (weak_Resolve_T cs0 sos1).run
def weak_Resolve_L : List (Nat × LoopAnn) := []
noncomputable def weak_Resolve_C : List (Nat × Callee) := [(14, .plain bidic_Class__fun), (15, .lent weak_marks_fun), (16, .lent weak_arabicNumbers_fun), (17, .lent weak_arabicLetters_fun), (18, .lent weak_separators_fun), (19, .lent weak_terminators_fun), (20, .lent weak_leftovers_fun), (21, .lent weak_latinNumbers_fun)]
noncomputable def weak_Resolve_fun : Fun := ⟨[.sl (.int .u8), .int .u8], [.row 26 (.int .u8)], fun x => weak_Resolve_F x.1 x.2.1⟩
theorem weak_Resolve_ev (x : Tys.I [.sl (.int .u8), .int .u8]) : evFun G0 (fun f => olook f weak_Resolve_C) ⟨[], [], [15, 16, 17, 18, 19, 20, 21]⟩ (fun i => olook i weak_Resolve_L) Try.f11 [.sl (.int .u8), .int .u8] [.row 26 (.int .u8)] x = weak_Resolve_T x.1 x.2.1 := by kernel_rfl
theorem weak_Resolve_ok : FunOk Try.prog 11 weak_Resolve_fun := evFun_ok mixed ctx0 (cons_calls (fb := .plain bidic_Class__fun) bidic_Class__ok (fun h => by cases h) (cons_calls (fb := .lent weak_marks_fun) weak_marks_ok (fun h => by rfl) (cons_calls (fb := .lent weak_arabicNumbers_fun) weak_arabicNumbers_ok (fun h => by rfl) (cons_calls (fb := .lent weak_arabicLetters_fun) weak_arabicLetters_ok (fun h => by rfl) (cons_calls (fb := .lent weak_separators_fun) weak_separators_ok (fun h => by rfl) (cons_calls (fb := .lent weak_terminators_fun) weak_terminators_ok (fun h => by rfl) (cons_calls (fb := .lent weak_leftovers_fun) weak_leftovers_ok (fun h => by rfl) (cons_calls (fb := .lent weak_latinNumbers_fun) weak_latinNumbers_ok (fun h => by rfl) (no_calls))))))))) Try.func11 (by kernel_rfl) _ (fun x => congrArg Tr.run (weak_Resolve_ev x)) (by kernel_rfl) (by kernel_rfl)
/-! ### boustrophedon/boustrophedonlaw14.awake -/
noncomputable def law14_awake_T : Tr Bool :=
  .bnd (weak_Resolve_F ([2, 8, 3]) 1) fun c_1 =>
  .bnd (weak_Resolve_F ([3, 7, 3, 5]) 0) fun c_2 =>
  .bnd (weak_Resolve_F ([5, 6]) 1) fun c_3 =>
  .bnd (weak_Resolve_F ([19, 8]) 0) fun c_4 =>
  .br ((c_1.length : Int) == 3) (
    .bnd (idx c_1 1) fun x_5 =>
    .br (x_5 == 1) (
      .bnd (idx c_1 2) fun x_6 =>
      .br (x_6 == 6) (
        .br ((c_2.length : Int) == 4) (
          .bnd (idx c_2 1) fun x_7 =>
          .br (x_7 == 0) (
            .bnd (idx c_2 3) fun x_8 =>
            .br (x_8 == 0) (
              .br ((c_3.length : Int) == 2) (
                .bnd (idx c_3 0) fun x_9 =>
                .br (x_9 == 13) (
                  .bnd (idx c_3 1) fun x_10 =>
                  .br (x_10 == 6) (
                    .br ((c_4.length : Int) == 2) (
                      .bnd (idx c_4 1) fun x_11 =>
                      .pure (x_11 == 13)) (
                      .pure false)) (
                    .pure false)) (
                  .pure false)) (
                .pure false)) (
              .pure false)) (
            .pure false)) (
          .pure false)) (
        .pure false)) (
      .pure false)) (
    .pure false)
noncomputable def law14_awake_F : Option Bool := (law14_awake_T).run
def law14_awake_L : List (Nat × LoopAnn) := []
noncomputable def law14_awake_C : List (Nat × Callee) := [(11, .plain weak_Resolve_fun)]
noncomputable def law14_awake_fun : Fun := ⟨[], [.v .bool], fun _ => law14_awake_F⟩
theorem law14_awake_ev (x : Tys.I []) : evFun G0 (fun f => olook f law14_awake_C) ⟨[], [], []⟩ (fun i => olook i law14_awake_L) Try.f7 [] [.v .bool] x = law14_awake_T := by kernel_rfl
theorem law14_awake_ok : FunOk Try.prog 7 law14_awake_fun := evFun_ok mixed ctx0 (cons_calls (fb := .plain weak_Resolve_fun) weak_Resolve_ok (fun h => by cases h) (no_calls)) Try.func7 (by kernel_rfl) _ (fun x => congrArg Tr.run (law14_awake_ev x)) (by kernel_rfl) (by kernel_rfl)
/-! ### boustrophedon/boustrophedonlaw08.Classes -/
noncomputable def law08_Classes_L3 (ns0 : List Int) (out3 : List Int) (k4 : Int) : Tr (Lap (List Int × List Int × Int) (List Int)) :=
  .br (decide (k4 < (ns0.length : Int))) (
    .bnd (idx ns0 k4) fun x_1 =>
    .bnd (app 140737488355328 out3 ([x_1.tmod 23])) fun r_2 =>
    .pure (.next (ns0, r_2, IntKind.i64.wrap (k4 + 1)))) (
    .pure (.done out3))
noncomputable def law08_Classes_T (ns0 : List Int) : Tr (List Int) :=
  .bnd (loopW (fun s => (law08_Classes_L3 s.1 s.2.1 s.2.2).run) (ns0, [], 0)) fun l_3 =>
  .pure l_3
noncomputable def law08_Classes_F (ns0 : List Int) : Option (List Int) := (law08_Classes_T ns0).run
def law08_Classes_L : List (Nat × LoopAnn) := [(3, { head := [.sv 0 false (.sl (.int .u8)), .srow 3 1000003 26 true (.int .u8), .sv 4 true (.int .i64)], xid := 0, out := [.srow 3 1000003 26 true (.int .u8)], hasRet := false, res := [] })]
noncomputable def law08_Classes_C : List (Nat × Callee) := []
noncomputable def law08_Classes_fun : Fun := ⟨[.sl (.int .u8)], [.row 26 (.int .u8)], fun x => law08_Classes_F x.1⟩
theorem law08_Classes_ev (x : Tys.I [.sl (.int .u8)]) : evFun G0 (fun f => olook f law08_Classes_C) ⟨[], [], []⟩ (fun i => olook i law08_Classes_L) Try.f8 [.sl (.int .u8)] [.row 26 (.int .u8)] x = law08_Classes_T x.1 := by kernel_rfl
theorem law08_Classes_ok : FunOk Try.prog 8 law08_Classes_fun := evFun_ok mixed ctx0 (no_calls) Try.func8 (by kernel_rfl) _ (fun x => congrArg Tr.run (law08_Classes_ev x)) (by kernel_rfl) (by kernel_rfl)
/-! ### boustrophedon/boustrophedonlaw14.Side -/
noncomputable def law14_Side_T (right0 : Bool) : Tr Int :=
  .br right0 (
    .pure 1) (
    .pure 0)
noncomputable def law14_Side_F (right0 : Bool) : Option Int := (law14_Side_T right0).run
def law14_Side_L : List (Nat × LoopAnn) := []
noncomputable def law14_Side_C : List (Nat × Callee) := []
noncomputable def law14_Side_fun : Fun := ⟨[.bool], [.v (.int .u8)], fun x => law14_Side_F x.1⟩
theorem law14_Side_ev (x : Tys.I [.bool]) : evFun G0 (fun f => olook f law14_Side_C) ⟨[], [], []⟩ (fun i => olook i law14_Side_L) Try.f9 [.bool] [.v (.int .u8)] x = law14_Side_T x.1 := by kernel_rfl
theorem law14_Side_ok : FunOk Try.prog 9 law14_Side_fun := evFun_ok mixed ctx0 (no_calls) Try.func9 (by kernel_rfl) _ (fun x => congrArg Tr.run (law14_Side_ev x)) (by kernel_rfl) (by kernel_rfl)
/-! ### boustrophedon/boustrophedonlaw14.Like -/
noncomputable def law14_Like_L4 (cs0 : List Int) (want1 : List Int) (k5 : Int) : Tr (Lap (List Int × List Int × Int) (Sum Unit Bool)) :=
  .br (decide (k5 < (cs0.length : Int))) (
    .bnd (idx cs0 k5) fun x_1 =>
    .bnd (idx want1 k5) fun x_2 =>
    .br ((IntKind.i64.wrap x_1) != x_2) (
      .pure (.done (.inr false))) (
      .pure (.next (cs0, want1, IntKind.i64.wrap (k5 + 1))))) (
    .pure (.done (.inl ())))
noncomputable def law14_Like_T (cs0 : List Int) (want1 : List Int) : Tr Bool :=
  .br ((cs0.length : Int) != (want1.length : Int)) (
    .pure false) (
    .alt (loopW (fun s => (law14_Like_L4 s.1 s.2.1 s.2.2).run) (cs0, want1, 0)) (fun l_3 =>
      .pure true) (fun l_4 =>
      .pure l_4))
noncomputable def law14_Like_F (cs0 : List Int) (want1 : List Int) : Option Bool := (law14_Like_T cs0 want1).run
def law14_Like_L : List (Nat × LoopAnn) := [(4, { head := [.sv 0 false (.sl (.int .u8)), .sv 1 false (.sl (.int .i64)), .sv 5 true (.int .i64)], xid := 0, out := [], hasRet := true, res := [.sv 4 true .bool] })]
noncomputable def law14_Like_C : List (Nat × Callee) := []
noncomputable def law14_Like_fun : Fun := ⟨[.sl (.int .u8), .sl (.int .i64)], [.v .bool], fun x => law14_Like_F x.1 x.2.1⟩
theorem law14_Like_ev (x : Tys.I [.sl (.int .u8), .sl (.int .i64)]) : evFun G0 (fun f => olook f law14_Like_C) ⟨[], [], []⟩ (fun i => olook i law14_Like_L) Try.f10 [.sl (.int .u8), .sl (.int .i64)] [.v .bool] x = law14_Like_T x.1 x.2.1 := by kernel_rfl
theorem law14_Like_ok : FunOk Try.prog 10 law14_Like_fun := evFun_ok mixed ctx0 (no_calls) Try.func10 (by kernel_rfl) _ (fun x => congrArg Tr.run (law14_Like_ev x)) (by kernel_rfl) (by kernel_rfl)
/-! ### boustrophedon/boustrophedonref14.copied -/
noncomputable def ref14_copied_T (cs0 : List Int) : Tr (List Int) :=
  .bnd (app 17592186044416 [] cs0) fun r_1 =>
  .pure r_1
noncomputable def ref14_copied_F (cs0 : List Int) : Option (List Int) := (ref14_copied_T cs0).run
def ref14_copied_L : List (Nat × LoopAnn) := []
noncomputable def ref14_copied_C : List (Nat × Callee) := []
noncomputable def ref14_copied_fun : Fun := ⟨[.sl (.int .i64)], [.row 3 (.int .i64)], fun x => ref14_copied_F x.1⟩
theorem ref14_copied_ev (x : Tys.I [.sl (.int .i64)]) : evFun G0 (fun f => olook f ref14_copied_C) ⟨[], [], []⟩ (fun i => olook i ref14_copied_L) Try.f32 [.sl (.int .i64)] [.row 3 (.int .i64)] x = ref14_copied_T x.1 := by kernel_rfl
theorem ref14_copied_ok : FunOk Try.prog 32 ref14_copied_fun := evFun_ok mixed ctx0 (no_calls) Try.func32 (by kernel_rfl) _ (fun x => congrArg Tr.run (ref14_copied_ev x)) (by kernel_rfl) (by kernel_rfl)
/-! ### boustrophedon/boustrophedonref14.strong -/
noncomputable def ref14_strong_L2 (cs0 : List Int) (sos2 : Int) (i7 : Int) : Tr (Lap (List Int × Int × Int) (Sum Int Int)) :=
  .br (decide (i7 ≥ 0)) (
    .bnd (idx cs0 i7) fun x_1 =>
    .br (x_1 == 0) (
      .bnd (idx cs0 i7) fun x_2 =>
      .pure (.done (.inr x_2))) (
      .bnd (idx cs0 i7) fun x_3 =>
      .br (x_3 == 1) (
        .bnd (idx cs0 i7) fun x_4 =>
        .pure (.done (.inr x_4))) (
        .bnd (idx cs0 i7) fun x_5 =>
        .br (x_5 == 2) (
          .bnd (idx cs0 i7) fun x_6 =>
          .pure (.done (.inr x_6))) (
          .pure (.next (cs0, sos2, IntKind.i64.wrap (i7 - 1))))))) (
    .pure (.done (.inl sos2)))
noncomputable def ref14_strong_T (cs0 : List Int) (k1 : Int) (sos2 : Int) : Tr Int :=
  .alt (loopW (fun s => (ref14_strong_L2 s.1 s.2.1 s.2.2).run) (cs0, sos2, IntKind.i64.wrap (k1 - 1))) (fun l_7 =>
    .pure l_7) (fun l_8 =>
    .pure l_8)
noncomputable def ref14_strong_F (cs0 : List Int) (k1 : Int) (sos2 : Int) : Option Int := (ref14_strong_T cs0 k1 sos2).run
def ref14_strong_L : List (Nat × LoopAnn) := [(2, { head := [.sv 0 false (.sl (.int .i64)), .sv 2 false (.int .i64), .sv 7 true (.int .i64)], xid := 0, out := [.sv 2 false (.int .i64)], hasRet := true, res := [.sv 6 false (.int .i64)] })]
noncomputable def ref14_strong_C : List (Nat × Callee) := []
noncomputable def ref14_strong_fun : Fun := ⟨[.sl (.int .i64), .int .i64, .int .i64], [.v (.int .i64)], fun x => ref14_strong_F x.1 x.2.1 x.2.2.1⟩
theorem ref14_strong_ev (x : Tys.I [.sl (.int .i64), .int .i64, .int .i64]) : evFun G0 (fun f => olook f ref14_strong_C) ⟨[], [], []⟩ (fun i => olook i ref14_strong_L) Try.f33 [.sl (.int .i64), .int .i64, .int .i64] [.v (.int .i64)] x = ref14_strong_T x.1 x.2.1 x.2.2.1 := by kernel_rfl
theorem ref14_strong_ok : FunOk Try.prog 33 ref14_strong_fun := evFun_ok mixed ctx0 (no_calls) Try.func33 (by kernel_rfl) _ (fun x => congrArg Tr.run (ref14_strong_ev x)) (by kernel_rfl) (by kernel_rfl)
/-! ### boustrophedon/boustrophedonref14.rule7 -/
noncomputable def ref14_rule7_L3 (cs0 : List Int) (sos1 : Int) (out5 : List Int) (k6 : Int) : Tr (Lap (List Int × Int × List Int × Int) (List Int)) :=
  .br (decide (k6 < (cs0.length : Int))) (
    .bnd (idx cs0 k6) fun x_2 =>
    .br (x_2 == 3) (
      .bnd (ref14_strong_F cs0 k6 sos1) fun c_3 =>
      .br (c_3 == 0) (
        .bnd (idx out5 k6) fun x_4 =>
        .pure (.next (cs0, sos1, out5.set (Int.toNat k6) 0, IntKind.i64.wrap (k6 + 1)))) (
        .pure (.next (cs0, sos1, out5, IntKind.i64.wrap (k6 + 1))))) (
      .pure (.next (cs0, sos1, out5, IntKind.i64.wrap (k6 + 1))))) (
    .pure (.done out5))
noncomputable def ref14_rule7_T (cs0 : List Int) (sos1 : Int) : Tr (List Int) :=
  .bnd (ref14_copied_F cs0) fun c_1 =>
  .bnd (loopW (fun s => (ref14_rule7_L3 s.1 s.2.1 s.2.2.1 s.2.2.2).run) (cs0, sos1, c_1, 0)) fun l_5 =>
  .pure l_5
noncomputable def ref14_rule7_F (cs0 : List Int) (sos1 : Int) : Option (List Int) := (ref14_rule7_T cs0 sos1).run
def ref14_rule7_L : List (Nat × LoopAnn) := [(3, { head := [.sv 0 false (.sl (.int .i64)), .sv 1 false (.int .i64), .srow 5 1000005 3 true (.int .i64), .sv 6 true (.int .i64)], xid := 0, out := [.srow 5 1000005 3 true (.int .i64)], hasRet := false, res := [] })]
noncomputable def ref14_rule7_C : List (Nat × Callee) := [(32, .plain ref14_copied_fun), (33, .plain ref14_strong_fun)]
noncomputable def ref14_rule7_fun : Fun := ⟨[.sl (.int .i64), .int .i64], [.row 3 (.int .i64)], fun x => ref14_rule7_F x.1 x.2.1⟩
theorem ref14_rule7_ev (x : Tys.I [.sl (.int .i64), .int .i64]) : evFun G0 (fun f => olook f ref14_rule7_C) ⟨[], [], []⟩ (fun i => olook i ref14_rule7_L) Try.f22 [.sl (.int .i64), .int .i64] [.row 3 (.int .i64)] x = ref14_rule7_T x.1 x.2.1 := by kernel_rfl
theorem ref14_rule7_ok : FunOk Try.prog 22 ref14_rule7_fun := evFun_ok mixed ctx0 (cons_calls (fb := .plain ref14_copied_fun) ref14_copied_ok (fun h => by cases h) (cons_calls (fb := .plain ref14_strong_fun) ref14_strong_ok (fun h => by cases h) (no_calls))) Try.func22 (by kernel_rfl) _ (fun x => congrArg Tr.run (ref14_rule7_ev x)) (by kernel_rfl) (by kernel_rfl)
/-! ### boustrophedon/boustrophedonref14.rule6 -/
noncomputable def ref14_rule6_L3 (out3 : List Int) (k4 : Int) : Tr (Lap (List Int × Int) (List Int)) :=
  .br (decide (k4 < (out3.length : Int))) (
    .bnd (idx out3 k4) fun x_2 =>
    .br (x_2 == 4) (
      .bnd (idx out3 k4) fun x_3 =>
      .pure (.next (out3.set (Int.toNat k4) 13, IntKind.i64.wrap (k4 + 1)))) (
      .bnd (idx out3 k4) fun x_4 =>
      .br (x_4 == 5) (
        .bnd (idx out3 k4) fun x_5 =>
        .pure (.next (out3.set (Int.toNat k4) 13, IntKind.i64.wrap (k4 + 1)))) (
        .bnd (idx out3 k4) fun x_6 =>
        .br (x_6 == 7) (
          .bnd (idx out3 k4) fun x_7 =>
          .pure (.next (out3.set (Int.toNat k4) 13, IntKind.i64.wrap (k4 + 1)))) (
          .pure (.next (out3, IntKind.i64.wrap (k4 + 1))))))) (
    .pure (.done out3))
noncomputable def ref14_rule6_T (cs0 : List Int) : Tr (List Int) :=
  .bnd (ref14_copied_F cs0) fun c_1 =>
  .bnd (loopW (fun s => (ref14_rule6_L3 s.1 s.2).run) (c_1, 0)) fun l_8 =>
  .pure l_8
noncomputable def ref14_rule6_F (cs0 : List Int) : Option (List Int) := (ref14_rule6_T cs0).run
def ref14_rule6_L : List (Nat × LoopAnn) := [(3, { head := [.srow 3 1000003 3 true (.int .i64), .sv 4 true (.int .i64)], xid := 0, out := [.srow 3 1000003 3 true (.int .i64)], hasRet := false, res := [] })]
noncomputable def ref14_rule6_C : List (Nat × Callee) := [(32, .plain ref14_copied_fun)]
noncomputable def ref14_rule6_fun : Fun := ⟨[.sl (.int .i64)], [.row 3 (.int .i64)], fun x => ref14_rule6_F x.1⟩
theorem ref14_rule6_ev (x : Tys.I [.sl (.int .i64)]) : evFun G0 (fun f => olook f ref14_rule6_C) ⟨[], [], []⟩ (fun i => olook i ref14_rule6_L) Try.f23 [.sl (.int .i64)] [.row 3 (.int .i64)] x = ref14_rule6_T x.1 := by kernel_rfl
theorem ref14_rule6_ok : FunOk Try.prog 23 ref14_rule6_fun := evFun_ok mixed ctx0 (cons_calls (fb := .plain ref14_copied_fun) ref14_copied_ok (fun h => by cases h) (no_calls)) Try.func23 (by kernel_rfl) _ (fun x => congrArg Tr.run (ref14_rule6_ev x)) (by kernel_rfl) (by kernel_rfl)
/-! ### boustrophedon/boustrophedonref14.rule5 -/
noncomputable def ref14_rule5_L7 (cs0 : List Int) (out3 : List Int) (k4 : Int) (i5 : Int) : Tr (Lap (List Int × List Int × Int × Int) (List Int × List Int × Int × Int)) :=
  .br (decide (i5 ≥ 0)) (
    .bnd (idx cs0 i5) fun x_3 =>
    .br (x_3 == 5) (
      .pure (.next (cs0, out3, k4, IntKind.i64.wrap (i5 - 1)))) (
      .pure (.done (cs0, out3, k4, i5)))) (
    .pure (.done (cs0, out3, k4, i5)))
noncomputable def ref14_rule5_L10 (cs0 : List Int) (out3 : List Int) (k4 : Int) (i5 : Int) (j6 : Int) : Tr (Lap (List Int × List Int × Int × Int × Int) (List Int × List Int × Int × Int × Int)) :=
  .br (decide (j6 < (cs0.length : Int))) (
    .bnd (idx cs0 j6) fun x_5 =>
    .br (x_5 == 5) (
      .pure (.next (cs0, out3, k4, i5, IntKind.i64.wrap (j6 + 1)))) (
      .pure (.done (cs0, out3, k4, i5, j6)))) (
    .pure (.done (cs0, out3, k4, i5, j6)))
noncomputable def ref14_rule5_L3 (cs0 : List Int) (out3 : List Int) (k4 : Int) : Tr (Lap (List Int × List Int × Int) (List Int)) :=
  .br (decide (k4 < (cs0.length : Int))) (
    .bnd (idx cs0 k4) fun x_2 =>
    .br (x_2 != 5) (
      .pure (.next (cs0, out3, IntKind.i64.wrap (k4 + 1)))) (
      .bnd (loopW (fun s => (ref14_rule5_L7 s.1 s.2.1 s.2.2.1 s.2.2.2).run) (cs0, out3, k4, k4)) fun l_4 =>
      .bnd (loopW (fun s => (ref14_rule5_L10 s.1 s.2.1 s.2.2.1 s.2.2.2.1 s.2.2.2.2).run) (l_4.1, l_4.2.1, l_4.2.2.1, l_4.2.2.2, l_4.2.2.1)) fun l_6 =>
      .br (decide (l_6.2.2.2.1 ≥ 0)) (
        .bnd (idx l_6.1 l_6.2.2.2.1) fun x_7 =>
        .br (x_7 == 3) (
          .bnd (idx l_6.2.1 l_6.2.2.1) fun x_8 =>
          .pure (.next (l_6.1, l_6.2.1.set (Int.toNat l_6.2.2.1) 3, IntKind.i64.wrap (l_6.2.2.1 + 1)))) (
          .br (decide (l_6.2.2.2.2 < (l_6.1.length : Int))) (
            .bnd (idx l_6.1 l_6.2.2.2.2) fun x_9 =>
            .br (x_9 == 3) (
              .bnd (idx l_6.2.1 l_6.2.2.1) fun x_10 =>
              .pure (.next (l_6.1, l_6.2.1.set (Int.toNat l_6.2.2.1) 3, IntKind.i64.wrap (l_6.2.2.1 + 1)))) (
              .pure (.next (l_6.1, l_6.2.1, IntKind.i64.wrap (l_6.2.2.1 + 1))))) (
            .pure (.next (l_6.1, l_6.2.1, IntKind.i64.wrap (l_6.2.2.1 + 1)))))) (
        .br (decide (l_6.2.2.2.2 < (l_6.1.length : Int))) (
          .bnd (idx l_6.1 l_6.2.2.2.2) fun x_11 =>
          .br (x_11 == 3) (
            .bnd (idx l_6.2.1 l_6.2.2.1) fun x_12 =>
            .pure (.next (l_6.1, l_6.2.1.set (Int.toNat l_6.2.2.1) 3, IntKind.i64.wrap (l_6.2.2.1 + 1)))) (
            .pure (.next (l_6.1, l_6.2.1, IntKind.i64.wrap (l_6.2.2.1 + 1))))) (
          .pure (.next (l_6.1, l_6.2.1, IntKind.i64.wrap (l_6.2.2.1 + 1))))))) (
    .pure (.done out3))
noncomputable def ref14_rule5_T (cs0 : List Int) : Tr (List Int) :=
  .bnd (ref14_copied_F cs0) fun c_1 =>
  .bnd (loopW (fun s => (ref14_rule5_L3 s.1 s.2.1 s.2.2).run) (cs0, c_1, 0)) fun l_13 =>
  .pure l_13
noncomputable def ref14_rule5_F (cs0 : List Int) : Option (List Int) := (ref14_rule5_T cs0).run
def ref14_rule5_L : List (Nat × LoopAnn) := [(7, { head := [.sv 0 false (.sl (.int .i64)), .srow 3 1000003 3 true (.int .i64), .sv 4 true (.int .i64), .sv 5 true (.int .i64)], xid := 2, out := [.sv 0 false (.sl (.int .i64)), .srow 3 1000003 3 true (.int .i64), .sv 4 true (.int .i64), .sv 5 true (.int .i64)], hasRet := false, res := [] }), (10, { head := [.sv 0 false (.sl (.int .i64)), .srow 3 1000003 3 true (.int .i64), .sv 4 true (.int .i64), .sv 5 true (.int .i64), .sv 6 true (.int .i64)], xid := 4, out := [.sv 0 false (.sl (.int .i64)), .srow 3 1000003 3 true (.int .i64), .sv 4 true (.int .i64), .sv 5 true (.int .i64), .sv 6 true (.int .i64)], hasRet := false, res := [] }), (3, { head := [.sv 0 false (.sl (.int .i64)), .srow 3 1000003 3 true (.int .i64), .sv 4 true (.int .i64)], xid := 0, out := [.srow 3 1000003 3 true (.int .i64)], hasRet := false, res := [] })]
noncomputable def ref14_rule5_C : List (Nat × Callee) := [(32, .plain ref14_copied_fun)]
noncomputable def ref14_rule5_fun : Fun := ⟨[.sl (.int .i64)], [.row 3 (.int .i64)], fun x => ref14_rule5_F x.1⟩
theorem ref14_rule5_ev (x : Tys.I [.sl (.int .i64)]) : evFun G0 (fun f => olook f ref14_rule5_C) ⟨[], [], []⟩ (fun i => olook i ref14_rule5_L) Try.f24 [.sl (.int .i64)] [.row 3 (.int .i64)] x = ref14_rule5_T x.1 := by kernel_rfl
theorem ref14_rule5_ok : FunOk Try.prog 24 ref14_rule5_fun := evFun_ok mixed ctx0 (cons_calls (fb := .plain ref14_copied_fun) ref14_copied_ok (fun h => by cases h) (no_calls)) Try.func24 (by kernel_rfl) _ (fun x => congrArg Tr.run (ref14_rule5_ev x)) (by kernel_rfl) (by kernel_rfl)
/-! ### boustrophedon/boustrophedonref14.behind -/
noncomputable def ref14_behind_T (cs0 : List Int) (k1 : Int) : Tr Int :=
  .br (decide ((IntKind.i64.wrap (k1 + 1)) ≥ (cs0.length : Int))) (
    .pure (-1)) (
    .bnd (idx cs0 (IntKind.i64.wrap (k1 + 1))) fun x_1 =>
    .pure x_1)
noncomputable def ref14_behind_F (cs0 : List Int) (k1 : Int) : Option Int := (ref14_behind_T cs0 k1).run
def ref14_behind_L : List (Nat × LoopAnn) := []
noncomputable def ref14_behind_C : List (Nat × Callee) := []
noncomputable def ref14_behind_fun : Fun := ⟨[.sl (.int .i64), .int .i64], [.v (.int .i64)], fun x => ref14_behind_F x.1 x.2.1⟩
theorem ref14_behind_ev (x : Tys.I [.sl (.int .i64), .int .i64]) : evFun G0 (fun f => olook f ref14_behind_C) ⟨[], [], []⟩ (fun i => olook i ref14_behind_L) Try.f34 [.sl (.int .i64), .int .i64] [.v (.int .i64)] x = ref14_behind_T x.1 x.2.1 := by kernel_rfl
theorem ref14_behind_ok : FunOk Try.prog 34 ref14_behind_fun := evFun_ok mixed ctx0 (no_calls) Try.func34 (by kernel_rfl) _ (fun x => congrArg Tr.run (ref14_behind_ev x)) (by kernel_rfl) (by kernel_rfl)
/-! ### boustrophedon/boustrophedonref14.rule4 -/
noncomputable def ref14_rule4_L3 (out3 : List Int) (k4 : Int) : Tr (Lap (List Int × Int) (List Int)) :=
  .br (decide (k4 < (out3.length : Int))) (
    .bnd (idx out3 (IntKind.i64.wrap (k4 - 1))) fun x_2 =>
    .bnd (ref14_behind_F out3 k4) fun c_3 =>
    .bnd (idx out3 k4) fun x_4 =>
    .br (x_4 == 4) (
      .br (x_2 == 3) (
        .br (c_3 == 3) (
          .bnd (idx out3 k4) fun x_5 =>
          .bnd (idx (out3.set (Int.toNat k4) 3) k4) fun x_6 =>
          .br (x_6 == 7) (
            .br (x_2 == 3) (
              .br (c_3 == 3) (
                .bnd (idx (out3.set (Int.toNat k4) 3) k4) fun x_7 =>
                .pure (.next ((out3.set (Int.toNat k4) 3).set (Int.toNat k4) x_2, IntKind.i64.wrap (k4 + 1)))) (
                .br (x_2 == 6) (
                  .br (c_3 == 6) (
                    .bnd (idx (out3.set (Int.toNat k4) 3) k4) fun x_8 =>
                    .pure (.next ((out3.set (Int.toNat k4) 3).set (Int.toNat k4) x_2, IntKind.i64.wrap (k4 + 1)))) (
                    .pure (.next (out3.set (Int.toNat k4) 3, IntKind.i64.wrap (k4 + 1))))) (
                  .pure (.next (out3.set (Int.toNat k4) 3, IntKind.i64.wrap (k4 + 1)))))) (
              .br (x_2 == 6) (
                .br (c_3 == 6) (
                  .bnd (idx (out3.set (Int.toNat k4) 3) k4) fun x_9 =>
                  .pure (.next ((out3.set (Int.toNat k4) 3).set (Int.toNat k4) x_2, IntKind.i64.wrap (k4 + 1)))) (
                  .pure (.next (out3.set (Int.toNat k4) 3, IntKind.i64.wrap (k4 + 1))))) (
                .pure (.next (out3.set (Int.toNat k4) 3, IntKind.i64.wrap (k4 + 1)))))) (
            .pure (.next (out3.set (Int.toNat k4) 3, IntKind.i64.wrap (k4 + 1))))) (
          .bnd (idx out3 k4) fun x_10 =>
          .br (x_10 == 7) (
            .br (x_2 == 3) (
              .br (c_3 == 3) (
                .bnd (idx out3 k4) fun x_11 =>
                .pure (.next (out3.set (Int.toNat k4) x_2, IntKind.i64.wrap (k4 + 1)))) (
                .br (x_2 == 6) (
                  .br (c_3 == 6) (
                    .bnd (idx out3 k4) fun x_12 =>
                    .pure (.next (out3.set (Int.toNat k4) x_2, IntKind.i64.wrap (k4 + 1)))) (
                    .pure (.next (out3, IntKind.i64.wrap (k4 + 1))))) (
                  .pure (.next (out3, IntKind.i64.wrap (k4 + 1)))))) (
              .br (x_2 == 6) (
                .br (c_3 == 6) (
                  .bnd (idx out3 k4) fun x_13 =>
                  .pure (.next (out3.set (Int.toNat k4) x_2, IntKind.i64.wrap (k4 + 1)))) (
                  .pure (.next (out3, IntKind.i64.wrap (k4 + 1))))) (
                .pure (.next (out3, IntKind.i64.wrap (k4 + 1)))))) (
            .pure (.next (out3, IntKind.i64.wrap (k4 + 1)))))) (
        .bnd (idx out3 k4) fun x_14 =>
        .br (x_14 == 7) (
          .br (x_2 == 3) (
            .br (c_3 == 3) (
              .bnd (idx out3 k4) fun x_15 =>
              .pure (.next (out3.set (Int.toNat k4) x_2, IntKind.i64.wrap (k4 + 1)))) (
              .br (x_2 == 6) (
                .br (c_3 == 6) (
                  .bnd (idx out3 k4) fun x_16 =>
                  .pure (.next (out3.set (Int.toNat k4) x_2, IntKind.i64.wrap (k4 + 1)))) (
                  .pure (.next (out3, IntKind.i64.wrap (k4 + 1))))) (
                .pure (.next (out3, IntKind.i64.wrap (k4 + 1)))))) (
            .br (x_2 == 6) (
              .br (c_3 == 6) (
                .bnd (idx out3 k4) fun x_17 =>
                .pure (.next (out3.set (Int.toNat k4) x_2, IntKind.i64.wrap (k4 + 1)))) (
                .pure (.next (out3, IntKind.i64.wrap (k4 + 1))))) (
              .pure (.next (out3, IntKind.i64.wrap (k4 + 1)))))) (
          .pure (.next (out3, IntKind.i64.wrap (k4 + 1)))))) (
      .bnd (idx out3 k4) fun x_18 =>
      .br (x_18 == 7) (
        .br (x_2 == 3) (
          .br (c_3 == 3) (
            .bnd (idx out3 k4) fun x_19 =>
            .pure (.next (out3.set (Int.toNat k4) x_2, IntKind.i64.wrap (k4 + 1)))) (
            .br (x_2 == 6) (
              .br (c_3 == 6) (
                .bnd (idx out3 k4) fun x_20 =>
                .pure (.next (out3.set (Int.toNat k4) x_2, IntKind.i64.wrap (k4 + 1)))) (
                .pure (.next (out3, IntKind.i64.wrap (k4 + 1))))) (
              .pure (.next (out3, IntKind.i64.wrap (k4 + 1)))))) (
          .br (x_2 == 6) (
            .br (c_3 == 6) (
              .bnd (idx out3 k4) fun x_21 =>
              .pure (.next (out3.set (Int.toNat k4) x_2, IntKind.i64.wrap (k4 + 1)))) (
              .pure (.next (out3, IntKind.i64.wrap (k4 + 1))))) (
            .pure (.next (out3, IntKind.i64.wrap (k4 + 1)))))) (
        .pure (.next (out3, IntKind.i64.wrap (k4 + 1)))))) (
    .pure (.done out3))
noncomputable def ref14_rule4_T (cs0 : List Int) : Tr (List Int) :=
  .bnd (ref14_copied_F cs0) fun c_1 =>
  .bnd (loopW (fun s => (ref14_rule4_L3 s.1 s.2).run) (c_1, 1)) fun l_22 =>
  .pure l_22
noncomputable def ref14_rule4_F (cs0 : List Int) : Option (List Int) := (ref14_rule4_T cs0).run
def ref14_rule4_L : List (Nat × LoopAnn) := [(3, { head := [.srow 3 1000003 3 true (.int .i64), .sv 4 true (.int .i64)], xid := 0, out := [.srow 3 1000003 3 true (.int .i64)], hasRet := false, res := [] })]
noncomputable def ref14_rule4_C : List (Nat × Callee) := [(32, .plain ref14_copied_fun), (34, .plain ref14_behind_fun)]
noncomputable def ref14_rule4_fun : Fun := ⟨[.sl (.int .i64)], [.row 3 (.int .i64)], fun x => ref14_rule4_F x.1⟩
theorem ref14_rule4_ev (x : Tys.I [.sl (.int .i64)]) : evFun G0 (fun f => olook f ref14_rule4_C) ⟨[], [], []⟩ (fun i => olook i ref14_rule4_L) Try.f25 [.sl (.int .i64)] [.row 3 (.int .i64)] x = ref14_rule4_T x.1 := by kernel_rfl
theorem ref14_rule4_ok : FunOk Try.prog 25 ref14_rule4_fun := evFun_ok mixed ctx0 (cons_calls (fb := .plain ref14_copied_fun) ref14_copied_ok (fun h => by cases h) (cons_calls (fb := .plain ref14_behind_fun) ref14_behind_ok (fun h => by cases h) (no_calls))) Try.func25 (by kernel_rfl) _ (fun x => congrArg Tr.run (ref14_rule4_ev x)) (by kernel_rfl) (by kernel_rfl)
/-! ### boustrophedon/boustrophedonref14.rule3 -/
noncomputable def ref14_rule3_L3 (out3 : List Int) (k4 : Int) : Tr (Lap (List Int × Int) (List Int)) :=
  .br (decide (k4 < (out3.length : Int))) (
    .bnd (idx out3 k4) fun x_2 =>
    .br (x_2 == 2) (
      .bnd (idx out3 k4) fun x_3 =>
      .pure (.next (out3.set (Int.toNat k4) 1, IntKind.i64.wrap (k4 + 1)))) (
      .pure (.next (out3, IntKind.i64.wrap (k4 + 1))))) (
    .pure (.done out3))
noncomputable def ref14_rule3_T (cs0 : List Int) : Tr (List Int) :=
  .bnd (ref14_copied_F cs0) fun c_1 =>
  .bnd (loopW (fun s => (ref14_rule3_L3 s.1 s.2).run) (c_1, 0)) fun l_4 =>
  .pure l_4
noncomputable def ref14_rule3_F (cs0 : List Int) : Option (List Int) := (ref14_rule3_T cs0).run
def ref14_rule3_L : List (Nat × LoopAnn) := [(3, { head := [.srow 3 1000003 3 true (.int .i64), .sv 4 true (.int .i64)], xid := 0, out := [.srow 3 1000003 3 true (.int .i64)], hasRet := false, res := [] })]
noncomputable def ref14_rule3_C : List (Nat × Callee) := [(32, .plain ref14_copied_fun)]
noncomputable def ref14_rule3_fun : Fun := ⟨[.sl (.int .i64)], [.row 3 (.int .i64)], fun x => ref14_rule3_F x.1⟩
theorem ref14_rule3_ev (x : Tys.I [.sl (.int .i64)]) : evFun G0 (fun f => olook f ref14_rule3_C) ⟨[], [], []⟩ (fun i => olook i ref14_rule3_L) Try.f26 [.sl (.int .i64)] [.row 3 (.int .i64)] x = ref14_rule3_T x.1 := by kernel_rfl
theorem ref14_rule3_ok : FunOk Try.prog 26 ref14_rule3_fun := evFun_ok mixed ctx0 (cons_calls (fb := .plain ref14_copied_fun) ref14_copied_ok (fun h => by cases h) (no_calls)) Try.func26 (by kernel_rfl) _ (fun x => congrArg Tr.run (ref14_rule3_ev x)) (by kernel_rfl) (by kernel_rfl)
/-! ### boustrophedon/boustrophedonref14.rule2 -/
noncomputable def ref14_rule2_L3 (cs0 : List Int) (sos1 : Int) (out5 : List Int) (k6 : Int) : Tr (Lap (List Int × Int × List Int × Int) (List Int)) :=
  .br (decide (k6 < (cs0.length : Int))) (
    .bnd (idx cs0 k6) fun x_2 =>
    .br (x_2 == 3) (
      .bnd (ref14_strong_F cs0 k6 sos1) fun c_3 =>
      .br (c_3 == 2) (
        .bnd (idx out5 k6) fun x_4 =>
        .pure (.next (cs0, sos1, out5.set (Int.toNat k6) 6, IntKind.i64.wrap (k6 + 1)))) (
        .pure (.next (cs0, sos1, out5, IntKind.i64.wrap (k6 + 1))))) (
      .pure (.next (cs0, sos1, out5, IntKind.i64.wrap (k6 + 1))))) (
    .pure (.done out5))
noncomputable def ref14_rule2_T (cs0 : List Int) (sos1 : Int) : Tr (List Int) :=
  .bnd (ref14_copied_F cs0) fun c_1 =>
  .bnd (loopW (fun s => (ref14_rule2_L3 s.1 s.2.1 s.2.2.1 s.2.2.2).run) (cs0, sos1, c_1, 0)) fun l_5 =>
  .pure l_5
noncomputable def ref14_rule2_F (cs0 : List Int) (sos1 : Int) : Option (List Int) := (ref14_rule2_T cs0 sos1).run
def ref14_rule2_L : List (Nat × LoopAnn) := [(3, { head := [.sv 0 false (.sl (.int .i64)), .sv 1 false (.int .i64), .srow 5 1000005 3 true (.int .i64), .sv 6 true (.int .i64)], xid := 0, out := [.srow 5 1000005 3 true (.int .i64)], hasRet := false, res := [] })]
noncomputable def ref14_rule2_C : List (Nat × Callee) := [(32, .plain ref14_copied_fun), (33, .plain ref14_strong_fun)]
noncomputable def ref14_rule2_fun : Fun := ⟨[.sl (.int .i64), .int .i64], [.row 3 (.int .i64)], fun x => ref14_rule2_F x.1 x.2.1⟩
theorem ref14_rule2_ev (x : Tys.I [.sl (.int .i64), .int .i64]) : evFun G0 (fun f => olook f ref14_rule2_C) ⟨[], [], []⟩ (fun i => olook i ref14_rule2_L) Try.f27 [.sl (.int .i64), .int .i64] [.row 3 (.int .i64)] x = ref14_rule2_T x.1 x.2.1 := by kernel_rfl
theorem ref14_rule2_ok : FunOk Try.prog 27 ref14_rule2_fun := evFun_ok mixed ctx0 (cons_calls (fb := .plain ref14_copied_fun) ref14_copied_ok (fun h => by cases h) (cons_calls (fb := .plain ref14_strong_fun) ref14_strong_ok (fun h => by cases h) (no_calls))) Try.func27 (by kernel_rfl) _ (fun x => congrArg Tr.run (ref14_rule2_ev x)) (by kernel_rfl) (by kernel_rfl)
/-! ### boustrophedon/boustrophedonref14.ahead -/
noncomputable def ref14_ahead_T (cs0 : List Int) (k1 : Int) (sos2 : Int) : Tr Int :=
  .br (k1 == 0) (
    .pure sos2) (
    .bnd (idx cs0 (IntKind.i64.wrap (k1 - 1))) fun x_1 =>
    .pure x_1)
noncomputable def ref14_ahead_F (cs0 : List Int) (k1 : Int) (sos2 : Int) : Option Int := (ref14_ahead_T cs0 k1 sos2).run
def ref14_ahead_L : List (Nat × LoopAnn) := []
noncomputable def ref14_ahead_C : List (Nat × Callee) := []
noncomputable def ref14_ahead_fun : Fun := ⟨[.sl (.int .i64), .int .i64, .int .i64], [.v (.int .i64)], fun x => ref14_ahead_F x.1 x.2.1 x.2.2.1⟩
theorem ref14_ahead_ev (x : Tys.I [.sl (.int .i64), .int .i64, .int .i64]) : evFun G0 (fun f => olook f ref14_ahead_C) ⟨[], [], []⟩ (fun i => olook i ref14_ahead_L) Try.f35 [.sl (.int .i64), .int .i64, .int .i64] [.v (.int .i64)] x = ref14_ahead_T x.1 x.2.1 x.2.2.1 := by kernel_rfl
theorem ref14_ahead_ok : FunOk Try.prog 35 ref14_ahead_fun := evFun_ok mixed ctx0 (no_calls) Try.func35 (by kernel_rfl) _ (fun x => congrArg Tr.run (ref14_ahead_ev x)) (by kernel_rfl) (by kernel_rfl)
/-! ### boustrophedon/boustrophedonref14.rule1 -/
noncomputable def ref14_rule1_L3 (sos1 : Int) (out5 : List Int) (k6 : Int) : Tr (Lap (Int × List Int × Int) (List Int)) :=
  .br (decide (k6 < (out5.length : Int))) (
    .bnd (idx out5 k6) fun x_2 =>
    .br (x_2 != 8) (
      .pure (.next (sos1, out5, IntKind.i64.wrap (k6 + 1)))) (
      .bnd (ref14_ahead_F out5 k6 sos1) fun c_3 =>
      .br (decide (c_3 ≥ 19)) (
        .br (decide (c_3 ≤ 22)) (
          .bnd (idx out5 k6) fun x_4 =>
          .pure (.next (sos1, out5.set (Int.toNat k6) 13, IntKind.i64.wrap (k6 + 1)))) (
          .bnd (idx out5 k6) fun x_5 =>
          .pure (.next (sos1, out5.set (Int.toNat k6) c_3, IntKind.i64.wrap (k6 + 1))))) (
        .bnd (idx out5 k6) fun x_6 =>
        .pure (.next (sos1, out5.set (Int.toNat k6) c_3, IntKind.i64.wrap (k6 + 1)))))) (
    .pure (.done out5))
noncomputable def ref14_rule1_T (cs0 : List Int) (sos1 : Int) : Tr (List Int) :=
  .bnd (ref14_copied_F cs0) fun c_1 =>
  .bnd (loopW (fun s => (ref14_rule1_L3 s.1 s.2.1 s.2.2).run) (sos1, c_1, 0)) fun l_7 =>
  .pure l_7
noncomputable def ref14_rule1_F (cs0 : List Int) (sos1 : Int) : Option (List Int) := (ref14_rule1_T cs0 sos1).run
def ref14_rule1_L : List (Nat × LoopAnn) := [(3, { head := [.sv 1 false (.int .i64), .srow 5 1000005 3 true (.int .i64), .sv 6 true (.int .i64)], xid := 0, out := [.srow 5 1000005 3 true (.int .i64)], hasRet := false, res := [] })]
noncomputable def ref14_rule1_C : List (Nat × Callee) := [(32, .plain ref14_copied_fun), (35, .plain ref14_ahead_fun)]
noncomputable def ref14_rule1_fun : Fun := ⟨[.sl (.int .i64), .int .i64], [.row 3 (.int .i64)], fun x => ref14_rule1_F x.1 x.2.1⟩
theorem ref14_rule1_ev (x : Tys.I [.sl (.int .i64), .int .i64]) : evFun G0 (fun f => olook f ref14_rule1_C) ⟨[], [], []⟩ (fun i => olook i ref14_rule1_L) Try.f28 [.sl (.int .i64), .int .i64] [.row 3 (.int .i64)] x = ref14_rule1_T x.1 x.2.1 := by kernel_rfl
theorem ref14_rule1_ok : FunOk Try.prog 28 ref14_rule1_fun := evFun_ok mixed ctx0 (cons_calls (fb := .plain ref14_copied_fun) ref14_copied_ok (fun h => by cases h) (cons_calls (fb := .plain ref14_ahead_fun) ref14_ahead_ok (fun h => by cases h) (no_calls))) Try.func28 (by kernel_rfl) _ (fun x => congrArg Tr.run (ref14_rule1_ev x)) (by kernel_rfl) (by kernel_rfl)
/-! ### boustrophedon/boustrophedonref14.Weak -/
noncomputable def ref14_Weak_T (cs0 : List Int) (sos1 : Int) : Tr (List Int) :=
  .bnd (ref14_rule1_F cs0 sos1) fun c_1 =>
  .bnd (ref14_rule2_F c_1 sos1) fun c_2 =>
  .bnd (ref14_rule3_F c_2) fun c_3 =>
  .bnd (ref14_rule4_F c_3) fun c_4 =>
  .bnd (ref14_rule5_F c_4) fun c_5 =>
  .bnd (ref14_rule6_F c_5) fun c_6 =>
  .bnd (ref14_rule7_F c_6 sos1) fun c_7 =>
  .pure c_7
noncomputable def ref14_Weak_F (cs0 : List Int) (sos1 : Int) : Option (List Int) := (ref14_Weak_T cs0 sos1).run
def ref14_Weak_L : List (Nat × LoopAnn) := []
noncomputable def ref14_Weak_C : List (Nat × Callee) := [(28, .plain ref14_rule1_fun), (27, .plain ref14_rule2_fun), (26, .plain ref14_rule3_fun), (25, .plain ref14_rule4_fun), (24, .plain ref14_rule5_fun), (23, .plain ref14_rule6_fun), (22, .plain ref14_rule7_fun)]
noncomputable def ref14_Weak_fun : Fun := ⟨[.sl (.int .i64), .int .i64], [.row 3 (.int .i64)], fun x => ref14_Weak_F x.1 x.2.1⟩
theorem ref14_Weak_ev (x : Tys.I [.sl (.int .i64), .int .i64]) : evFun G0 (fun f => olook f ref14_Weak_C) ⟨[], [], []⟩ (fun i => olook i ref14_Weak_L) Try.f12 [.sl (.int .i64), .int .i64] [.row 3 (.int .i64)] x = ref14_Weak_T x.1 x.2.1 := by kernel_rfl
theorem ref14_Weak_ok : FunOk Try.prog 12 ref14_Weak_fun := evFun_ok mixed ctx0 (cons_calls (fb := .plain ref14_rule1_fun) ref14_rule1_ok (fun h => by cases h) (cons_calls (fb := .plain ref14_rule2_fun) ref14_rule2_ok (fun h => by cases h) (cons_calls (fb := .plain ref14_rule3_fun) ref14_rule3_ok (fun h => by cases h) (cons_calls (fb := .plain ref14_rule4_fun) ref14_rule4_ok (fun h => by cases h) (cons_calls (fb := .plain ref14_rule5_fun) ref14_rule5_ok (fun h => by cases h) (cons_calls (fb := .plain ref14_rule6_fun) ref14_rule6_ok (fun h => by cases h) (cons_calls (fb := .plain ref14_rule7_fun) ref14_rule7_ok (fun h => by cases h) (no_calls)))))))) Try.func12 (by kernel_rfl) _ (fun x => congrArg Tr.run (ref14_Weak_ev x)) (by kernel_rfl) (by kernel_rfl)
/-! ### boustrophedon/boustrophedonlaw10.Ints -/
noncomputable def law10_Ints_L3 (out3 : List Int) (t6 : List Int) (t7 : Int) (t8 : Int) : Tr (Lap (List Int × List Int × Int × Int) (List Int)) :=
  .br (decide (t8 < t7)) (
    .bnd (idx t6 t8) fun x_1 =>
    .bnd (app 17592186044416 out3 ([IntKind.i64.wrap x_1])) fun r_2 =>
    .pure (.next (r_2, t6, t7, IntKind.i64.wrap (t8 + 1)))) (
    .pure (.done out3))
noncomputable def law10_Ints_T (cs0 : List Int) : Tr (List Int) :=
  .bnd (loopW (fun s => (law10_Ints_L3 s.1 s.2.1 s.2.2.1 s.2.2.2).run) ([], cs0, (cs0.length : Int), 0)) fun l_3 =>
  .pure l_3
noncomputable def law10_Ints_F (cs0 : List Int) : Option (List Int) := (law10_Ints_T cs0).run
def law10_Ints_L : List (Nat × LoopAnn) := [(3, { head := [.srow 3 1000003 3 true (.int .i64), .sv 6 false (.sl (.int .u8)), .sv 7 true (.int .i64), .sv 8 true (.int .i64)], xid := 0, out := [.srow 3 1000003 3 true (.int .i64)], hasRet := false, res := [] })]
noncomputable def law10_Ints_C : List (Nat × Callee) := []
noncomputable def law10_Ints_fun : Fun := ⟨[.sl (.int .u8)], [.row 3 (.int .i64)], fun x => law10_Ints_F x.1⟩
theorem law10_Ints_ev (x : Tys.I [.sl (.int .u8)]) : evFun G0 (fun f => olook f law10_Ints_C) ⟨[], [], []⟩ (fun i => olook i law10_Ints_L) Try.f13 [.sl (.int .u8)] [.row 3 (.int .i64)] x = law10_Ints_T x.1 := by kernel_rfl
theorem law10_Ints_ok : FunOk Try.prog 13 law10_Ints_fun := evFun_ok mixed ctx0 (no_calls) Try.func13 (by kernel_rfl) _ (fun x => congrArg Tr.run (law10_Ints_ev x)) (by kernel_rfl) (by kernel_rfl)
/-! ### boustrophedon/boustrophedonlaw14.WeakResolves -/
noncomputable def law14_WeakResolves_T (ns0 : List Int) (right1 : Bool) : Tr Bool :=
  .bnd law14_awake_F fun c_1 =>
  .br (!c_1) (
    .pure false) (
    .bnd (law08_Classes_F ns0) fun c_2 =>
    .bnd (law14_Side_F right1) fun c_3 =>
    .bnd (weak_Resolve_F c_2 c_3) fun c_4 =>
    .bnd (law10_Ints_F c_2) fun c_5 =>
    .bnd (ref14_Weak_F c_5 (IntKind.i64.wrap c_3)) fun c_6 =>
    .bnd (law14_Like_F c_4 c_6) fun c_7 =>
    .pure c_7)
noncomputable def law14_WeakResolves_F (ns0 : List Int) (right1 : Bool) : Option Bool := (law14_WeakResolves_T ns0 right1).run
def law14_WeakResolves_L : List (Nat × LoopAnn) := []
noncomputable def law14_WeakResolves_C : List (Nat × Callee) := [(7, .plain law14_awake_fun), (8, .plain law08_Classes_fun), (9, .plain law14_Side_fun), (11, .plain weak_Resolve_fun), (13, .plain law10_Ints_fun), (12, .plain ref14_Weak_fun), (10, .plain law14_Like_fun)]
noncomputable def law14_WeakResolves_fun : Fun := ⟨[.sl (.int .u8), .bool], [.v .bool], fun x => law14_WeakResolves_F x.1 x.2.1⟩
theorem law14_WeakResolves_ev (x : Tys.I [.sl (.int .u8), .bool]) : evFun G0 (fun f => olook f law14_WeakResolves_C) ⟨[], [], []⟩ (fun i => olook i law14_WeakResolves_L) Try.f3 [.sl (.int .u8), .bool] [.v .bool] x = law14_WeakResolves_T x.1 x.2.1 := by kernel_rfl
theorem law14_WeakResolves_ok : FunOk Try.prog 3 law14_WeakResolves_fun := evFun_ok mixed ctx0 (cons_calls (fb := .plain law14_awake_fun) law14_awake_ok (fun h => by cases h) (cons_calls (fb := .plain law08_Classes_fun) law08_Classes_ok (fun h => by cases h) (cons_calls (fb := .plain law14_Side_fun) law14_Side_ok (fun h => by cases h) (cons_calls (fb := .plain weak_Resolve_fun) weak_Resolve_ok (fun h => by cases h) (cons_calls (fb := .plain law10_Ints_fun) law10_Ints_ok (fun h => by cases h) (cons_calls (fb := .plain ref14_Weak_fun) ref14_Weak_ok (fun h => by cases h) (cons_calls (fb := .plain law14_Like_fun) law14_Like_ok (fun h => by cases h) (no_calls)))))))) Try.func3 (by kernel_rfl) _ (fun x => congrArg Tr.run (law14_WeakResolves_ev x)) (by kernel_rfl) (by kernel_rfl)
/-! ### boustrophedon/boustrophedonlaw14.WeakNone -/
noncomputable def law14_WeakNone_L9 (cs5 : List Int) (out6 : List Int) (was7 : List Int) (k8 : Int) : Tr (Lap (List Int × List Int × List Int × Int) (Sum Unit Bool)) :=
  .br (decide (k8 < (out6.length : Int))) (
    .bnd (idx cs5 k8) fun x_6 =>
    .bnd (idx was7 k8) fun x_7 =>
    .br (x_6 != x_7) (
      .pure (.done (.inr false))) (
      .bnd (idx out6 k8) fun x_8 =>
      .br (x_8 == 2) (
        .pure (.done (.inr false))) (
        .br (x_8 == 8) (
          .pure (.done (.inr false))) (
          .br (x_8 == 4) (
            .pure (.done (.inr false))) (
            .br (x_8 == 5) (
              .pure (.done (.inr false))) (
              .br (x_8 == 7) (
                .pure (.done (.inr false))) (
                .bnd (idx cs5 k8) fun x_9 =>
                .br (x_9 == 0) (
                  .bnd (idx out6 k8) fun x_10 =>
                  .bnd (idx cs5 k8) fun x_11 =>
                  .br (x_10 != x_11) (
                    .pure (.done (.inr false))) (
                    .bnd (idx cs5 k8) fun x_12 =>
                    .br (x_12 == 2) (
                      .bnd (idx out6 k8) fun x_13 =>
                      .br (x_13 != 1) (
                        .pure (.done (.inr false))) (
                        .pure (.next (cs5, out6, was7, IntKind.i64.wrap (k8 + 1))))) (
                      .pure (.next (cs5, out6, was7, IntKind.i64.wrap (k8 + 1)))))) (
                  .bnd (idx cs5 k8) fun x_14 =>
                  .br (x_14 == 1) (
                    .bnd (idx out6 k8) fun x_15 =>
                    .bnd (idx cs5 k8) fun x_16 =>
                    .br (x_15 != x_16) (
                      .pure (.done (.inr false))) (
                      .bnd (idx cs5 k8) fun x_17 =>
                      .br (x_17 == 2) (
                        .bnd (idx out6 k8) fun x_18 =>
                        .br (x_18 != 1) (
                          .pure (.done (.inr false))) (
                          .pure (.next (cs5, out6, was7, IntKind.i64.wrap (k8 + 1))))) (
                        .pure (.next (cs5, out6, was7, IntKind.i64.wrap (k8 + 1)))))) (
                    .bnd (idx cs5 k8) fun x_19 =>
                    .br (decide (x_19 > 8)) (
                      .bnd (idx out6 k8) fun x_20 =>
                      .bnd (idx cs5 k8) fun x_21 =>
                      .br (x_20 != x_21) (
                        .pure (.done (.inr false))) (
                        .bnd (idx cs5 k8) fun x_22 =>
                        .br (x_22 == 2) (
                          .bnd (idx out6 k8) fun x_23 =>
                          .br (x_23 != 1) (
                            .pure (.done (.inr false))) (
                            .pure (.next (cs5, out6, was7, IntKind.i64.wrap (k8 + 1))))) (
                          .pure (.next (cs5, out6, was7, IntKind.i64.wrap (k8 + 1)))))) (
                      .bnd (idx cs5 k8) fun x_24 =>
                      .br (x_24 == 2) (
                        .bnd (idx out6 k8) fun x_25 =>
                        .br (x_25 != 1) (
                          .pure (.done (.inr false))) (
                          .pure (.next (cs5, out6, was7, IntKind.i64.wrap (k8 + 1))))) (
                        .pure (.next (cs5, out6, was7, IntKind.i64.wrap (k8 + 1)))))))))))))) (
    .pure (.done (.inl ())))
noncomputable def law14_WeakNone_T (ns0 : List Int) (right1 : Bool) : Tr Bool :=
  .bnd law14_awake_F fun c_1 =>
  .br (!c_1) (
    .pure false) (
    .bnd (law08_Classes_F ns0) fun c_2 =>
    .bnd (law14_Side_F right1) fun c_3 =>
    .bnd (weak_Resolve_F c_2 c_3) fun c_4 =>
    .bnd (law08_Classes_F ns0) fun c_5 =>
    .br ((c_4.length : Int) != (c_2.length : Int)) (
      .pure false) (
      .alt (loopW (fun s => (law14_WeakNone_L9 s.1 s.2.1 s.2.2.1 s.2.2.2).run) (c_2, c_4, c_5, 0)) (fun l_26 =>
        .pure true) (fun l_27 =>
        .pure l_27)))
noncomputable def law14_WeakNone_F (ns0 : List Int) (right1 : Bool) : Option Bool := (law14_WeakNone_T ns0 right1).run
def law14_WeakNone_L : List (Nat × LoopAnn) := [(9, { head := [.srow 5 1000005 26 true (.int .u8), .srow 6 1000006 26 true (.int .u8), .srow 7 1000007 26 true (.int .u8), .sv 8 true (.int .i64)], xid := 0, out := [], hasRet := true, res := [.sv 4 true .bool] })]
noncomputable def law14_WeakNone_C : List (Nat × Callee) := [(7, .plain law14_awake_fun), (8, .plain law08_Classes_fun), (9, .plain law14_Side_fun), (11, .plain weak_Resolve_fun)]
noncomputable def law14_WeakNone_fun : Fun := ⟨[.sl (.int .u8), .bool], [.v .bool], fun x => law14_WeakNone_F x.1 x.2.1⟩
theorem law14_WeakNone_ev (x : Tys.I [.sl (.int .u8), .bool]) : evFun G0 (fun f => olook f law14_WeakNone_C) ⟨[], [], []⟩ (fun i => olook i law14_WeakNone_L) Try.f4 [.sl (.int .u8), .bool] [.v .bool] x = law14_WeakNone_T x.1 x.2.1 := by kernel_rfl
theorem law14_WeakNone_ok : FunOk Try.prog 4 law14_WeakNone_fun := evFun_ok mixed ctx0 (cons_calls (fb := .plain law14_awake_fun) law14_awake_ok (fun h => by cases h) (cons_calls (fb := .plain law08_Classes_fun) law08_Classes_ok (fun h => by cases h) (cons_calls (fb := .plain law14_Side_fun) law14_Side_ok (fun h => by cases h) (cons_calls (fb := .plain weak_Resolve_fun) weak_Resolve_ok (fun h => by cases h) (no_calls))))) Try.func4 (by kernel_rfl) _ (fun x => congrArg Tr.run (law14_WeakNone_ev x)) (by kernel_rfl) (by kernel_rfl)
/-! ### boustrophedon/boustrophedonlaw14.WeakTwice -/
noncomputable def law14_WeakTwice_L5 (right1 : Bool) (cs5 : List Int) (t12 : List Int) (t13 : Int) (t14 : Int) : Tr (Lap (Bool × List Int × List Int × Int × Int) (Bool × List Int)) :=
  .br (decide (t14 < t13)) (
    .bnd (idx t12 t14) fun x_3 =>
    .br (x_3 != 6) (
      .br (x_3 != 3) (
        .bnd (app 140737488355328 cs5 ([x_3])) fun r_4 =>
        .pure (.next (right1, r_4, t12, t13, IntKind.i64.wrap (t14 + 1)))) (
        .pure (.next (right1, cs5, t12, t13, IntKind.i64.wrap (t14 + 1))))) (
      .pure (.next (right1, cs5, t12, t13, IntKind.i64.wrap (t14 + 1))))) (
    .pure (.done (right1, cs5)))
noncomputable def law14_WeakTwice_T (ns0 : List Int) (right1 : Bool) : Tr Bool :=
  .bnd law14_awake_F fun c_1 =>
  .br (!c_1) (
    .pure false) (
    .bnd (law08_Classes_F ns0) fun c_2 =>
    .bnd (loopW (fun s => (law14_WeakTwice_L5 s.1 s.2.1 s.2.2.1 s.2.2.2.1 s.2.2.2.2).run) (right1, [], c_2, (c_2.length : Int), 0)) fun l_5 =>
    .bnd (law14_Side_F l_5.1) fun c_6 =>
    .bnd (weak_Resolve_F l_5.2 c_6) fun c_7 =>
    .bnd (law14_Side_F l_5.1) fun c_8 =>
    .bnd (weak_Resolve_F c_7 c_8) fun c_9 =>
    .bnd (law10_Ints_F c_7) fun c_10 =>
    .bnd (law14_Like_F c_9 c_10) fun c_11 =>
    .pure c_11)
noncomputable def law14_WeakTwice_F (ns0 : List Int) (right1 : Bool) : Option Bool := (law14_WeakTwice_T ns0 right1).run
def law14_WeakTwice_L : List (Nat × LoopAnn) := [(5, { head := [.sv 1 false .bool, .srow 5 1000005 26 true (.int .u8), .srow 12 1000012 26 true (.int .u8), .sv 13 true (.int .i64), .sv 14 true (.int .i64)], xid := 0, out := [.sv 1 false .bool, .srow 5 1000005 26 true (.int .u8)], hasRet := false, res := [] })]
noncomputable def law14_WeakTwice_C : List (Nat × Callee) := [(7, .plain law14_awake_fun), (8, .plain law08_Classes_fun), (9, .plain law14_Side_fun), (11, .plain weak_Resolve_fun), (13, .plain law10_Ints_fun), (10, .plain law14_Like_fun)]
noncomputable def law14_WeakTwice_fun : Fun := ⟨[.sl (.int .u8), .bool], [.v .bool], fun x => law14_WeakTwice_F x.1 x.2.1⟩
theorem law14_WeakTwice_ev (x : Tys.I [.sl (.int .u8), .bool]) : evFun G0 (fun f => olook f law14_WeakTwice_C) ⟨[], [], []⟩ (fun i => olook i law14_WeakTwice_L) Try.f5 [.sl (.int .u8), .bool] [.v .bool] x = law14_WeakTwice_T x.1 x.2.1 := by kernel_rfl
theorem law14_WeakTwice_ok : FunOk Try.prog 5 law14_WeakTwice_fun := evFun_ok mixed ctx0 (cons_calls (fb := .plain law14_awake_fun) law14_awake_ok (fun h => by cases h) (cons_calls (fb := .plain law08_Classes_fun) law08_Classes_ok (fun h => by cases h) (cons_calls (fb := .plain law14_Side_fun) law14_Side_ok (fun h => by cases h) (cons_calls (fb := .plain weak_Resolve_fun) weak_Resolve_ok (fun h => by cases h) (cons_calls (fb := .plain law10_Ints_fun) law10_Ints_ok (fun h => by cases h) (cons_calls (fb := .plain law14_Like_fun) law14_Like_ok (fun h => by cases h) (no_calls))))))) Try.func5 (by kernel_rfl) _ (fun x => congrArg Tr.run (law14_WeakTwice_ev x)) (by kernel_rfl) (by kernel_rfl)
/-! ### boustrophedon/boustrophedonlaw14.WeakParts -/
noncomputable def law14_WeakParts_L10 (x11 : List Int) (y12 : List Int) (t60 : List Int) (t61 : Int) (t62 : Int) : Tr (Lap (List Int × List Int × List Int × Int × Int) (Sum Unit Bool)) :=
  .br (decide (t62 < t61)) (
    .bnd (idx t60 t62) fun x_13 =>
    .br (decide (t62 < (x11.length : Int))) (
      .bnd (idx x11 t62) fun x_14 =>
      .br (x_13 != x_14) (
        .pure (.done (.inr false))) (
        .br (decide (t62 ≥ (x11.length : Int))) (
          .bnd (idx y12 (IntKind.i64.wrap (t62 - (x11.length : Int)))) fun x_15 =>
          .br (x_13 != x_15) (
            .pure (.done (.inr false))) (
            .pure (.next (x11, y12, t60, t61, IntKind.i64.wrap (t62 + 1))))) (
          .pure (.next (x11, y12, t60, t61, IntKind.i64.wrap (t62 + 1)))))) (
      .br (decide (t62 ≥ (x11.length : Int))) (
        .bnd (idx y12 (IntKind.i64.wrap (t62 - (x11.length : Int)))) fun x_16 =>
        .br (x_13 != x_16) (
          .pure (.done (.inr false))) (
          .pure (.next (x11, y12, t60, t61, IntKind.i64.wrap (t62 + 1))))) (
        .pure (.next (x11, y12, t60, t61, IntKind.i64.wrap (t62 + 1)))))) (
    .pure (.done (.inl ())))
noncomputable def law14_WeakParts_T (ns0 : List Int) (ms1 : List Int) (right2 : Bool) : Tr Bool :=
  .bnd law14_awake_F fun c_1 =>
  .br (!c_1) (
    .pure false) (
    .bnd (law08_Classes_F ns0) fun c_2 =>
    .bnd (law08_Classes_F ms1) fun c_3 =>
    .bnd (app 140737488355328 [] c_2) fun r_4 =>
    .bnd (app 140737488355328 r_4 ([1])) fun r_5 =>
    .bnd (app 140737488355328 [] r_5) fun r_6 =>
    .bnd (app 140737488355328 r_6 c_3) fun r_7 =>
    .bnd (law14_Side_F right2) fun c_8 =>
    .bnd (weak_Resolve_F r_5 c_8) fun c_9 =>
    .bnd (weak_Resolve_F c_3 1) fun c_10 =>
    .bnd (law14_Side_F right2) fun c_11 =>
    .bnd (weak_Resolve_F r_7 c_11) fun c_12 =>
    .br ((c_9.length : Int) != (IntKind.i64.wrap ((c_2.length : Int) + 1))) (
      .pure false) (
      .br ((c_10.length : Int) != (c_3.length : Int)) (
        .pure false) (
        .br ((c_12.length : Int) != (r_7.length : Int)) (
          .pure false) (
          .alt (loopW (fun s => (law14_WeakParts_L10 s.1 s.2.1 s.2.2.1 s.2.2.2.1 s.2.2.2.2).run) (c_9, c_10, c_12, (c_12.length : Int), 0)) (fun l_17 =>
            .pure true) (fun l_18 =>
            .pure l_18)))))
noncomputable def law14_WeakParts_F (ns0 : List Int) (ms1 : List Int) (right2 : Bool) : Option Bool := (law14_WeakParts_T ns0 ms1 right2).run
def law14_WeakParts_L : List (Nat × LoopAnn) := [(10, { head := [.srow 11 1000011 26 true (.int .u8), .srow 12 1000012 26 true (.int .u8), .srow 60 1000060 26 true (.int .u8), .sv 61 true (.int .i64), .sv 62 true (.int .i64)], xid := 0, out := [], hasRet := true, res := [.sv 6 true .bool] })]
noncomputable def law14_WeakParts_C : List (Nat × Callee) := [(7, .plain law14_awake_fun), (8, .plain law08_Classes_fun), (9, .plain law14_Side_fun), (11, .plain weak_Resolve_fun)]
noncomputable def law14_WeakParts_fun : Fun := ⟨[.sl (.int .u8), .sl (.int .u8), .bool], [.v .bool], fun x => law14_WeakParts_F x.1 x.2.1 x.2.2.1⟩
theorem law14_WeakParts_ev (x : Tys.I [.sl (.int .u8), .sl (.int .u8), .bool]) : evFun G0 (fun f => olook f law14_WeakParts_C) ⟨[], [], []⟩ (fun i => olook i law14_WeakParts_L) Try.f6 [.sl (.int .u8), .sl (.int .u8), .bool] [.v .bool] x = law14_WeakParts_T x.1 x.2.1 x.2.2.1 := by kernel_rfl
theorem law14_WeakParts_ok : FunOk Try.prog 6 law14_WeakParts_fun := evFun_ok mixed ctx0 (cons_calls (fb := .plain law14_awake_fun) law14_awake_ok (fun h => by cases h) (cons_calls (fb := .plain law08_Classes_fun) law08_Classes_ok (fun h => by cases h) (cons_calls (fb := .plain law14_Side_fun) law14_Side_ok (fun h => by cases h) (cons_calls (fb := .plain weak_Resolve_fun) weak_Resolve_ok (fun h => by cases h) (no_calls))))) Try.func6 (by kernel_rfl) _ (fun x => congrArg Tr.run (law14_WeakParts_ev x)) (by kernel_rfl) (by kernel_rfl)
end Go.Proofs.Ytgpmfpigldkgfaa
