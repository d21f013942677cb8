/-
  The plain readings of the functions of this seat, by program; each is tied to the loaded function.
-/
import Derived.Test.YtfojigpbnepdhaaEvMain
import Derived.Test.YtfojigpbnepdhaaChecked
namespace Go.Proofs.Ytfojigpbnepdhaa
set_option maxRecDepth 100000
set_option linter.unusedVariables false

def G0 : Ctx := { ty := [(3, .int .i64), (4, .bool), (5, .int .u8), (22, .sl (.int .u8)), (24, .sl (.int .u8)), (26, .sl (.int .i64)), (29, .int .u8)], sls := [(22, ⟨5, .int .u8, 140737488355328⟩), (24, ⟨29, .int .u8, 140737488355328⟩), (26, ⟨3, .int .i64, 17592186044416⟩)], eqs := [] }
theorem mixed : Try.prog.follows .mixedOrders = true := by kernel_rfl
theorem ctx0 : CtxOk Try.prog G0 := ctx_ok (by kernel_rfl)
theorem no_calls : ∀ f fa, olook f ([] : List (Nat × Fun)) = some fa → FunOk Try.prog f fa := fun _ _ h => by cases h
theorem cons_calls {k : Nat} {fb : Fun} {l : List (Nat × Fun)} (h : FunOk Try.prog k fb) (hl : ∀ f fa, olook f l = some fa → FunOk Try.prog f fa) : ∀ f fa, olook f ((k, fb) :: l) = some fa → FunOk Try.prog f fa := by
  intro f fa hf
  rw [olook_cons] at hf
  split at hf
  · rename_i e; subst e; cases hf; exact h
  · exact hl f fa hf

/-! ### boustrophedon/bidic.Isolate -/
noncomputable def bidic_Isolate_T (c0 : Int) : Tr Bool :=
  .br (c0 == 19) (
    .pure true) (
    .br (c0 == 20) (
      .pure true) (
      .pure (c0 == 21)))
noncomputable def bidic_Isolate_F (c0 : Int) : Option Bool := (bidic_Isolate_T c0).run
def bidic_Isolate_L : List (Nat × LoopAnn) := []
noncomputable def bidic_Isolate_C : List (Nat × Fun) := []
noncomputable def bidic_Isolate_fun : Fun := ⟨[.int .u8], [.v .bool], fun x => bidic_Isolate_F x.1⟩
theorem bidic_Isolate_ev (x : Tys.I [.int .u8]) : evFun G0 (fun f => olook f bidic_Isolate_C) ⟨[], []⟩ (fun i => olook i bidic_Isolate_L) Try.f13 [.int .u8] [.v .bool] x = bidic_Isolate_T x.1 := by kernel_rfl
theorem bidic_Isolate_ok : FunOk Try.prog 13 bidic_Isolate_fun := evFun_ok mixed ctx0 (no_calls) Try.func13 (by kernel_rfl) _ (fun x => congrArg Tr.run (bidic_Isolate_ev x)) (by kernel_rfl) (by kernel_rfl)
/-! ### boustrophedon/isolate.Match -/
noncomputable def isolate_Match_L4 (match3 : List Int) (open4 : List Int) (t11 : List Int) (t12 : Int) (t13 : Int) : Tr (Lap (List Int × List Int × List Int × Int × Int) (List Int)) :=
  .br (decide (t13 < t12)) (
    .bnd (idx t11 t13) fun x_2 =>
    .bnd (idx match3 t13) fun x_3 =>
    .bnd (bidic_Isolate_F x_2) fun c_4 =>
    .br c_4 (
      .bnd (app 17592186044416 open4 ([t13])) fun r_5 =>
      .br (x_2 == 22) (
        .br (decide ((r_5.length : Int) > 0)) (
          .bnd (idx r_5 (IntKind.i64.wrap ((r_5.length : Int) - 1))) fun x_6 =>
          .bnd (idx r_5 (IntKind.i64.wrap ((r_5.length : Int) - 1))) fun x_7 =>
          .bnd (idx (match3.set (Int.toNat t13) (-1)) t13) fun x_8 =>
          .bnd (idx ((match3.set (Int.toNat t13) (-1)).set (Int.toNat t13) x_7) x_6) fun x_9 =>
          .bnd (cut r_5 0 (IntKind.i64.wrap ((r_5.length : Int) - 1))) fun r_10 =>
          .pure (.next (((match3.set (Int.toNat t13) (-1)).set (Int.toNat t13) x_7).set (Int.toNat x_6) t13, r_10, t11, t12, IntKind.i64.wrap (t13 + 1)))) (
          .pure (.next (match3.set (Int.toNat t13) (-1), r_5, t11, t12, IntKind.i64.wrap (t13 + 1))))) (
        .pure (.next (match3.set (Int.toNat t13) (-1), r_5, t11, t12, IntKind.i64.wrap (t13 + 1))))) (
      .br (x_2 == 22) (
        .br (decide ((open4.length : Int) > 0)) (
          .bnd (idx open4 (IntKind.i64.wrap ((open4.length : Int) - 1))) fun x_11 =>
          .bnd (idx open4 (IntKind.i64.wrap ((open4.length : Int) - 1))) fun x_12 =>
          .bnd (idx (match3.set (Int.toNat t13) (-1)) t13) fun x_13 =>
          .bnd (idx ((match3.set (Int.toNat t13) (-1)).set (Int.toNat t13) x_12) x_11) fun x_14 =>
          .bnd (cut open4 0 (IntKind.i64.wrap ((open4.length : Int) - 1))) fun r_15 =>
          .pure (.next (((match3.set (Int.toNat t13) (-1)).set (Int.toNat t13) x_12).set (Int.toNat x_11) t13, r_15, t11, t12, IntKind.i64.wrap (t13 + 1)))) (
          .pure (.next (match3.set (Int.toNat t13) (-1), open4, t11, t12, IntKind.i64.wrap (t13 + 1))))) (
        .pure (.next (match3.set (Int.toNat t13) (-1), open4, t11, t12, IntKind.i64.wrap (t13 + 1)))))) (
    .pure (.done match3))
noncomputable def isolate_Match_T (cs0 : List Int) : Tr (List Int) :=
  .bnd (mk 17592186044416 0 (cs0.length : Int)) fun r_1 =>
  .bnd (loopW (fun s => (isolate_Match_L4 s.1 s.2.1 s.2.2.1 s.2.2.2.1 s.2.2.2.2).run) (r_1, [], cs0, (cs0.length : Int), 0)) fun l_16 =>
  .pure l_16
noncomputable def isolate_Match_F (cs0 : List Int) : Option (List Int) := (isolate_Match_T cs0).run
def isolate_Match_L : List (Nat × LoopAnn) := [(4, { head := [.srow 3 1000003 3 true (.int .i64), .srow 4 1000004 3 true (.int .i64), .sv 11 false (.sl (.int .u8)), .sv 12 true (.int .i64), .sv 13 true (.int .i64)], xid := 0, out := [.srow 3 1000003 3 true (.int .i64)], hasRet := false, res := [] })]
noncomputable def isolate_Match_C : List (Nat × Fun) := [(13, bidic_Isolate_fun)]
noncomputable def isolate_Match_fun : Fun := ⟨[.sl (.int .u8)], [.row 3 (.int .i64)], fun x => isolate_Match_F x.1⟩
theorem isolate_Match_ev (x : Tys.I [.sl (.int .u8)]) : evFun G0 (fun f => olook f isolate_Match_C) ⟨[53], []⟩ (fun i => olook i isolate_Match_L) Try.f12 [.sl (.int .u8)] [.row 3 (.int .i64)] x = isolate_Match_T x.1 := by kernel_rfl
theorem isolate_Match_ok : FunOk Try.prog 12 isolate_Match_fun := evFun_ok mixed ctx0 (cons_calls bidic_Isolate_ok (no_calls)) Try.func12 (by kernel_rfl) _ (fun x => congrArg Tr.run (isolate_Match_ev x)) (by kernel_rfl) (by kernel_rfl)
/-! ### boustrophedon/boustrophedonlaw09.awake -/
noncomputable def law09_awake_T : Tr Bool :=
  .bnd (isolate_Match_F ([19, 20, 22, 0, 22, 22])) fun c_1 =>
  .bnd (isolate_Match_F ([20, 0])) fun c_2 =>
  .br ((c_1.length : Int) == 6) (
    .bnd (idx c_1 0) fun x_3 =>
    .br (x_3 == 4) (
      .bnd (idx c_1 1) fun x_4 =>
      .br (x_4 == 2) (
        .bnd (idx c_1 2) fun x_5 =>
        .br (x_5 == 1) (
          .bnd (idx c_1 3) fun x_6 =>
          .br (x_6 == (-1)) (
            .bnd (idx c_1 4) fun x_7 =>
            .br (x_7 == 0) (
              .bnd (idx c_1 5) fun x_8 =>
              .br (x_8 == (-1)) (
                .br ((c_2.length : Int) == 2) (
                  .bnd (idx c_2 0) fun x_9 =>
                  .pure (x_9 == (-1))) (
                  .pure false)) (
                .pure false)) (
              .pure false)) (
            .pure false)) (
          .pure false)) (
        .pure false)) (
      .pure false)) (
    .pure false)
noncomputable def law09_awake_F : Option Bool := (law09_awake_T).run
def law09_awake_L : List (Nat × LoopAnn) := []
noncomputable def law09_awake_C : List (Nat × Fun) := [(12, isolate_Match_fun)]
noncomputable def law09_awake_fun : Fun := ⟨[], [.v .bool], fun _ => law09_awake_F⟩
theorem law09_awake_ev (x : Tys.I []) : evFun G0 (fun f => olook f law09_awake_C) ⟨[], []⟩ (fun i => olook i law09_awake_L) Try.f10 [] [.v .bool] x = law09_awake_T := by kernel_rfl
theorem law09_awake_ok : FunOk Try.prog 10 law09_awake_fun := evFun_ok mixed ctx0 (cons_calls isolate_Match_ok (no_calls)) Try.func10 (by kernel_rfl) _ (fun x => congrArg Tr.run (law09_awake_ev x)) (by kernel_rfl) (by kernel_rfl)
/-! ### boustrophedon/boustrophedonlaw08.Classes -/
noncomputable def law08_Classes_L3 (ns0 : List Int) (out3 : List Int) (k4 : Int) : Tr (Lap (List Int × List Int × Int) (List Int)) :=
  .br (decide (k4 < (ns0.length : Int))) (
    .bnd (idx ns0 k4) fun x_1 =>
    .bnd (app 140737488355328 out3 ([x_1.tmod 23])) fun r_2 =>
    .pure (.next (ns0, r_2, IntKind.i64.wrap (k4 + 1)))) (
    .pure (.done out3))
noncomputable def law08_Classes_T (ns0 : List Int) : Tr (List Int) :=
  .bnd (loopW (fun s => (law08_Classes_L3 s.1 s.2.1 s.2.2).run) (ns0, [], 0)) fun l_3 =>
  .pure l_3
noncomputable def law08_Classes_F (ns0 : List Int) : Option (List Int) := (law08_Classes_T ns0).run
def law08_Classes_L : List (Nat × LoopAnn) := [(3, { head := [.sv 0 false (.sl (.int .u8)), .srow 3 1000003 29 true (.int .u8), .sv 4 true (.int .i64)], xid := 0, out := [.srow 3 1000003 29 true (.int .u8)], hasRet := false, res := [] })]
noncomputable def law08_Classes_C : List (Nat × Fun) := []
noncomputable def law08_Classes_fun : Fun := ⟨[.sl (.int .u8)], [.row 29 (.int .u8)], fun x => law08_Classes_F x.1⟩
theorem law08_Classes_ev (x : Tys.I [.sl (.int .u8)]) : evFun G0 (fun f => olook f law08_Classes_C) ⟨[], []⟩ (fun i => olook i law08_Classes_L) Try.f11 [.sl (.int .u8)] [.row 29 (.int .u8)] x = law08_Classes_T x.1 := by kernel_rfl
theorem law08_Classes_ok : FunOk Try.prog 11 law08_Classes_fun := evFun_ok mixed ctx0 (no_calls) Try.func11 (by kernel_rfl) _ (fun x => congrArg Tr.run (law08_Classes_ev x)) (by kernel_rfl) (by kernel_rfl)
/-! ### boustrophedon/boustrophedonlaw09.closes -/
noncomputable def law09_closes_L3 (cs0 : List Int) (n5 : Int) (k6 : Int) : Tr (Lap (List Int × Int × Int) (Sum Unit Int)) :=
  .br (decide (k6 < (cs0.length : Int))) (
    .bnd (idx cs0 k6) fun x_1 =>
    .bnd (bidic_Isolate_F x_1) fun c_2 =>
    .br c_2 (
      .bnd (idx cs0 k6) fun x_3 =>
      .br (x_3 == 22) (
        .br ((IntKind.i64.wrap ((IntKind.i64.wrap (n5 + 1)) - 1)) == 0) (
          .pure (.done (.inr k6))) (
          .pure (.next (cs0, IntKind.i64.wrap ((IntKind.i64.wrap (n5 + 1)) - 1), IntKind.i64.wrap (k6 + 1))))) (
        .br ((IntKind.i64.wrap (n5 + 1)) == 0) (
          .pure (.done (.inr k6))) (
          .pure (.next (cs0, IntKind.i64.wrap (n5 + 1), IntKind.i64.wrap (k6 + 1)))))) (
      .bnd (idx cs0 k6) fun x_4 =>
      .br (x_4 == 22) (
        .br ((IntKind.i64.wrap (n5 - 1)) == 0) (
          .pure (.done (.inr k6))) (
          .pure (.next (cs0, IntKind.i64.wrap (n5 - 1), IntKind.i64.wrap (k6 + 1))))) (
        .br (n5 == 0) (
          .pure (.done (.inr k6))) (
          .pure (.next (cs0, n5, IntKind.i64.wrap (k6 + 1))))))) (
    .pure (.done (.inl ())))
noncomputable def law09_closes_T (cs0 : List Int) (at1 : Int) : Tr Int :=
  .alt (loopW (fun s => (law09_closes_L3 s.1 s.2.1 s.2.2).run) (cs0, 0, at1)) (fun l_5 =>
    .pure (-1)) (fun l_6 =>
    .pure l_6)
noncomputable def law09_closes_F (cs0 : List Int) (at1 : Int) : Option Int := (law09_closes_T cs0 at1).run
def law09_closes_L : List (Nat × LoopAnn) := [(3, { head := [.sv 0 false (.sl (.int .u8)), .sv 5 true (.int .i64), .sv 6 false (.int .i64)], xid := 0, out := [], hasRet := true, res := [.sv 4 false (.int .i64)] })]
noncomputable def law09_closes_C : List (Nat × Fun) := [(13, bidic_Isolate_fun)]
noncomputable def law09_closes_fun : Fun := ⟨[.sl (.int .u8), .int .i64], [.v (.int .i64)], fun x => law09_closes_F x.1 x.2.1⟩
theorem law09_closes_ev (x : Tys.I [.sl (.int .u8), .int .i64]) : evFun G0 (fun f => olook f law09_closes_C) ⟨[], []⟩ (fun i => olook i law09_closes_L) Try.f14 [.sl (.int .u8), .int .i64] [.v (.int .i64)] x = law09_closes_T x.1 x.2.1 := by kernel_rfl
theorem law09_closes_ok : FunOk Try.prog 14 law09_closes_fun := evFun_ok mixed ctx0 (cons_calls bidic_Isolate_ok (no_calls)) Try.func14 (by kernel_rfl) _ (fun x => congrArg Tr.run (law09_closes_ev x)) (by kernel_rfl) (by kernel_rfl)
/-! ### boustrophedon/boustrophedonlaw09.IsolateMatches -/
noncomputable def law09_IsolateMatches_L9 (cs3 : List Int) (m4 : List Int) (want5 : List Int) (k6 : Int) : Tr (Lap (List Int × List Int × List Int × Int) (List Int × List Int × List Int)) :=
  .br (decide (k6 < (cs3.length : Int))) (
    .bnd (idx want5 k6) fun x_5 =>
    .pure (.next (cs3, m4, want5.set (Int.toNat k6) (-1), IntKind.i64.wrap (k6 + 1)))) (
    .pure (.done (cs3, m4, want5)))
noncomputable def law09_IsolateMatches_L13 (cs3 : List Int) (m4 : List Int) (want5 : List Int) (k7 : Int) : Tr (Lap (List Int × List Int × List Int × Int) (List Int × List Int × List Int)) :=
  .br (decide (k7 < (cs3.length : Int))) (
    .bnd (idx cs3 k7) fun x_7 =>
    .bnd (bidic_Isolate_F x_7) fun c_8 =>
    .br (!c_8) (
      .pure (.next (cs3, m4, want5, IntKind.i64.wrap (k7 + 1)))) (
      .bnd (law09_closes_F cs3 k7) fun c_9 =>
      .br (decide (c_9 ≥ 0)) (
        .bnd (idx want5 k7) fun x_10 =>
        .bnd (idx (want5.set (Int.toNat k7) c_9) c_9) fun x_11 =>
        .pure (.next (cs3, m4, (want5.set (Int.toNat k7) c_9).set (Int.toNat c_9) k7, IntKind.i64.wrap (k7 + 1)))) (
        .pure (.next (cs3, m4, want5, IntKind.i64.wrap (k7 + 1)))))) (
    .pure (.done (cs3, m4, want5)))
noncomputable def law09_IsolateMatches_L20 (cs3 : List Int) (m4 : List Int) (want5 : List Int) (k9 : Int) : Tr (Lap (List Int × List Int × List Int × Int) (Sum Unit Bool)) :=
  .br (decide (k9 < (cs3.length : Int))) (
    .bnd (idx m4 k9) fun x_13 =>
    .bnd (idx want5 k9) fun x_14 =>
    .br (x_13 != x_14) (
      .pure (.done (.inr false))) (
      .pure (.next (cs3, m4, want5, IntKind.i64.wrap (k9 + 1))))) (
    .pure (.done (.inl ())))
noncomputable def law09_IsolateMatches_T (ns0 : List Int) : Tr Bool :=
  .bnd law09_awake_F fun c_1 =>
  .br (!c_1) (
    .pure false) (
    .bnd (law08_Classes_F ns0) fun c_2 =>
    .bnd (isolate_Match_F c_2) fun c_3 =>
    .br ((c_3.length : Int) != (c_2.length : Int)) (
      .pure false) (
      .bnd (mk 17592186044416 0 (c_2.length : Int)) fun r_4 =>
      .bnd (loopW (fun s => (law09_IsolateMatches_L9 s.1 s.2.1 s.2.2.1 s.2.2.2).run) (c_2, c_3, r_4, 0)) fun l_6 =>
      .bnd (loopW (fun s => (law09_IsolateMatches_L13 s.1 s.2.1 s.2.2.1 s.2.2.2).run) (l_6.1, l_6.2.1, l_6.2.2, 0)) fun l_12 =>
      .alt (loopW (fun s => (law09_IsolateMatches_L20 s.1 s.2.1 s.2.2.1 s.2.2.2).run) (l_12.1, l_12.2.1, l_12.2.2, 0)) (fun l_15 =>
        .pure true) (fun l_16 =>
        .pure l_16)))
noncomputable def law09_IsolateMatches_F (ns0 : List Int) : Option Bool := (law09_IsolateMatches_T ns0).run
def law09_IsolateMatches_L : List (Nat × LoopAnn) := [(9, { head := [.srow 3 1000003 29 true (.int .u8), .srow 4 1000004 3 true (.int .i64), .srow 5 1000005 3 true (.int .i64), .sv 6 true (.int .i64)], xid := 0, out := [.srow 3 1000003 29 true (.int .u8), .srow 4 1000004 3 true (.int .i64), .srow 5 1000005 3 true (.int .i64)], hasRet := false, res := [] }), (13, { head := [.srow 3 1000003 29 true (.int .u8), .srow 4 1000004 3 true (.int .i64), .srow 5 1000005 3 true (.int .i64), .sv 7 true (.int .i64)], xid := 2, out := [.srow 3 1000003 29 true (.int .u8), .srow 4 1000004 3 true (.int .i64), .srow 5 1000005 3 true (.int .i64)], hasRet := false, res := [] }), (20, { head := [.srow 3 1000003 29 true (.int .u8), .srow 4 1000004 3 true (.int .i64), .srow 5 1000005 3 true (.int .i64), .sv 9 true (.int .i64)], xid := 4, out := [], hasRet := true, res := [.sv 2 true .bool] })]
noncomputable def law09_IsolateMatches_C : List (Nat × Fun) := [(10, law09_awake_fun), (11, law08_Classes_fun), (12, isolate_Match_fun), (13, bidic_Isolate_fun), (14, law09_closes_fun)]
noncomputable def law09_IsolateMatches_fun : Fun := ⟨[.sl (.int .u8)], [.v .bool], fun x => law09_IsolateMatches_F x.1⟩
theorem law09_IsolateMatches_ev (x : Tys.I [.sl (.int .u8)]) : evFun G0 (fun f => olook f law09_IsolateMatches_C) ⟨[], []⟩ (fun i => olook i law09_IsolateMatches_L) Try.f3 [.sl (.int .u8)] [.v .bool] x = law09_IsolateMatches_T x.1 := by kernel_rfl
theorem law09_IsolateMatches_ok : FunOk Try.prog 3 law09_IsolateMatches_fun := evFun_ok mixed ctx0 (cons_calls law09_awake_ok (cons_calls law08_Classes_ok (cons_calls isolate_Match_ok (cons_calls bidic_Isolate_ok (cons_calls law09_closes_ok (no_calls)))))) Try.func3 (by kernel_rfl) _ (fun x => congrArg Tr.run (law09_IsolateMatches_ev x)) (by kernel_rfl) (by kernel_rfl)
/-! ### boustrophedon/boustrophedonlaw09.IsolateBoth -/
noncomputable def law09_IsolateBoth_L12 (cs3 : List Int) (m4 : List Int) (k5 : Int) (i6 : Int) : Tr (Lap (List Int × List Int × Int × Int) (Sum (List Int × List Int × Int) Bool)) :=
  .bnd (idx m4 k5) fun x_13 =>
  .br (decide (i6 < x_13)) (
    .bnd (idx m4 i6) fun x_14 =>
    .br (x_14 != (-1)) (
      .bnd (idx m4 i6) fun x_15 =>
      .br (decide (x_15 < k5)) (
        .pure (.done (.inr false))) (
        .bnd (idx m4 i6) fun x_16 =>
        .bnd (idx m4 k5) fun x_17 =>
        .br (decide (x_16 > x_17)) (
          .pure (.done (.inr false))) (
          .pure (.next (cs3, m4, k5, IntKind.i64.wrap (i6 + 1)))))) (
      .pure (.next (cs3, m4, k5, IntKind.i64.wrap (i6 + 1))))) (
    .pure (.done (.inl (cs3, m4, k5))))
noncomputable def law09_IsolateBoth_L6 (cs3 : List Int) (m4 : List Int) (k5 : Int) : Tr (Lap (List Int × List Int × Int) (Sum (List Int × List Int) Bool)) :=
  .br (decide (k5 < (m4.length : Int))) (
    .bnd (idx m4 k5) fun x_4 =>
    .br (x_4 == (-1)) (
      .pure (.next (cs3, m4, IntKind.i64.wrap (k5 + 1)))) (
      .bnd (idx m4 k5) fun x_5 =>
      .bnd (idx m4 x_5) fun x_6 =>
      .br (x_6 != k5) (
        .pure (.done (.inr false))) (
        .bnd (idx cs3 k5) fun x_7 =>
        .bnd (idx m4 k5) fun x_8 =>
        .bnd (bidic_Isolate_F x_7) fun c_9 =>
        .br (!(c_9 == (decide (x_8 > k5)))) (
          .pure (.done (.inr false))) (
          .bnd (idx cs3 k5) fun x_10 =>
          .bnd (bidic_Isolate_F x_10) fun c_11 =>
          .br (!c_11) (
            .bnd (idx cs3 k5) fun x_12 =>
            .br (x_12 != 22) (
              .pure (.done (.inr false))) (
              .alt (loopW (fun s => (law09_IsolateBoth_L12 s.1 s.2.1 s.2.2.1 s.2.2.2).run) (cs3, m4, k5, IntKind.i64.wrap (k5 + 1))) (fun l_18 =>
                .pure (.next (l_18.1, l_18.2.1, IntKind.i64.wrap (l_18.2.2 + 1)))) (fun l_19 =>
                .pure (.done (.inr l_19))))) (
            .alt (loopW (fun s => (law09_IsolateBoth_L12 s.1 s.2.1 s.2.2.1 s.2.2.2).run) (cs3, m4, k5, IntKind.i64.wrap (k5 + 1))) (fun l_20 =>
              .pure (.next (l_20.1, l_20.2.1, IntKind.i64.wrap (l_20.2.2 + 1)))) (fun l_21 =>
              .pure (.done (.inr l_21)))))))) (
    .pure (.done (.inl (cs3, m4))))
noncomputable def law09_IsolateBoth_T (ns0 : List Int) : Tr Bool :=
  .bnd law09_awake_F fun c_1 =>
  .br (!c_1) (
    .pure false) (
    .bnd (law08_Classes_F ns0) fun c_2 =>
    .bnd (isolate_Match_F c_2) fun c_3 =>
    .alt (loopW (fun s => (law09_IsolateBoth_L6 s.1 s.2.1 s.2.2).run) (c_2, c_3, 0)) (fun l_22 =>
      .pure ((l_22.2.length : Int) == (l_22.1.length : Int))) (fun l_23 =>
      .pure l_23))
noncomputable def law09_IsolateBoth_F (ns0 : List Int) : Option Bool := (law09_IsolateBoth_T ns0).run
def law09_IsolateBoth_L : List (Nat × LoopAnn) := [(12, { head := [.srow 3 1000003 29 true (.int .u8), .srow 4 1000004 3 true (.int .i64), .sv 5 true (.int .i64), .sv 6 true (.int .i64)], xid := 2, out := [.srow 3 1000003 29 true (.int .u8), .srow 4 1000004 3 true (.int .i64), .sv 5 true (.int .i64)], hasRet := true, res := [.sv 2 true .bool] }), (6, { head := [.srow 3 1000003 29 true (.int .u8), .srow 4 1000004 3 true (.int .i64), .sv 5 true (.int .i64)], xid := 0, out := [.srow 3 1000003 29 true (.int .u8), .srow 4 1000004 3 true (.int .i64)], hasRet := true, res := [.sv 2 true .bool] })]
noncomputable def law09_IsolateBoth_C : List (Nat × Fun) := [(10, law09_awake_fun), (11, law08_Classes_fun), (12, isolate_Match_fun), (13, bidic_Isolate_fun)]
noncomputable def law09_IsolateBoth_fun : Fun := ⟨[.sl (.int .u8)], [.v .bool], fun x => law09_IsolateBoth_F x.1⟩
theorem law09_IsolateBoth_ev (x : Tys.I [.sl (.int .u8)]) : evFun G0 (fun f => olook f law09_IsolateBoth_C) ⟨[], [(9, [0, 1, 2, 3, 4, 5, 6, 7, 8, 9, 10, 11, 12, 13, 15, 16, 17, 18, 19, 20, 14, 21, 22, 23, 24, 25, 26, 27, 28, 29, 30, 31, 32, 33, 34, 35, 36, 37])]⟩ (fun i => olook i law09_IsolateBoth_L) Try.f4 [.sl (.int .u8)] [.v .bool] x = law09_IsolateBoth_T x.1 := by kernel_rfl
theorem law09_IsolateBoth_ok : FunOk Try.prog 4 law09_IsolateBoth_fun := evFun_ok mixed ctx0 (cons_calls law09_awake_ok (cons_calls law08_Classes_ok (cons_calls isolate_Match_ok (cons_calls bidic_Isolate_ok (no_calls))))) Try.func4 (by kernel_rfl) _ (fun x => congrArg Tr.run (law09_IsolateBoth_ev x)) (by kernel_rfl) (by kernel_rfl)
/-! ### boustrophedon/boustrophedonlaw09.IsolateRest -/
noncomputable def law09_IsolateRest_L7 (cs3 : List Int) (few4 : List Int) (at5 : List Int) (t16 : Int) (t17 : Int) : Tr (Lap (List Int × List Int × List Int × Int × Int) (List Int × List Int × List Int)) :=
  .br (decide (t17 < t16)) (
    .bnd (idx cs3 t17) fun x_3 =>
    .bnd (bidic_Isolate_F x_3) fun c_4 =>
    .br c_4 (
      .bnd (app 140737488355328 few4 ([x_3])) fun r_5 =>
      .bnd (app 17592186044416 at5 ([t17])) fun r_6 =>
      .pure (.next (cs3, r_5, r_6, t16, IntKind.i64.wrap (t17 + 1)))) (
      .br (x_3 == 22) (
        .bnd (app 140737488355328 few4 ([x_3])) fun r_7 =>
        .bnd (app 17592186044416 at5 ([t17])) fun r_8 =>
        .pure (.next (cs3, r_7, r_8, t16, IntKind.i64.wrap (t17 + 1)))) (
        .pure (.next (cs3, few4, at5, t16, IntKind.i64.wrap (t17 + 1)))))) (
    .pure (.done (cs3, few4, at5)))
noncomputable def law09_IsolateRest_L17 (at5 : List Int) (m8 : List Int) (n9 : List Int) (k10 : Int) : Tr (Lap (List Int × List Int × List Int × Int) (Sum Unit Bool)) :=
  .br (decide (k10 < (n9.length : Int))) (
    .bnd (idx n9 k10) fun x_12 =>
    .bnd (idx at5 k10) fun x_13 =>
    .bnd (idx m8 x_13) fun x_14 =>
    .br (!((x_12 == (-1)) == (x_14 == (-1)))) (
      .pure (.done (.inr false))) (
      .bnd (idx n9 k10) fun x_15 =>
      .br (x_15 != (-1)) (
        .bnd (idx at5 k10) fun x_16 =>
        .bnd (idx m8 x_16) fun x_17 =>
        .bnd (idx n9 k10) fun x_18 =>
        .bnd (idx at5 x_18) fun x_19 =>
        .br (x_17 != x_19) (
          .pure (.done (.inr false))) (
          .pure (.next (at5, m8, n9, IntKind.i64.wrap (k10 + 1))))) (
        .pure (.next (at5, m8, n9, IntKind.i64.wrap (k10 + 1)))))) (
    .pure (.done (.inl ())))
noncomputable def law09_IsolateRest_T (ns0 : List Int) : Tr Bool :=
  .bnd law09_awake_F fun c_1 =>
  .br (!c_1) (
    .pure false) (
    .bnd (law08_Classes_F ns0) fun c_2 =>
    .bnd (loopW (fun s => (law09_IsolateRest_L7 s.1 s.2.1 s.2.2.1 s.2.2.2.1 s.2.2.2.2).run) (c_2, [], [], (c_2.length : Int), 0)) fun l_9 =>
    .bnd (isolate_Match_F l_9.1) fun c_10 =>
    .bnd (isolate_Match_F l_9.2.1) fun c_11 =>
    .br ((c_11.length : Int) != (l_9.2.1.length : Int)) (
      .pure false) (
      .br ((c_10.length : Int) != (l_9.1.length : Int)) (
        .pure false) (
        .alt (loopW (fun s => (law09_IsolateRest_L17 s.1 s.2.1 s.2.2.1 s.2.2.2).run) (l_9.2.2, c_10, c_11, 0)) (fun l_20 =>
          .pure true) (fun l_21 =>
          .pure l_21))))
noncomputable def law09_IsolateRest_F (ns0 : List Int) : Option Bool := (law09_IsolateRest_T ns0).run
def law09_IsolateRest_L : List (Nat × LoopAnn) := [(7, { head := [.srow 3 1000003 29 true (.int .u8), .srow 4 1000004 29 true (.int .u8), .srow 5 1000005 3 true (.int .i64), .sref 15 3 1000003, .sv 16 true (.int .i64), .sv 17 true (.int .i64)], xid := 0, out := [.srow 3 1000003 29 true (.int .u8), .srow 4 1000004 29 true (.int .u8), .srow 5 1000005 3 true (.int .i64)], hasRet := false, res := [] }), (17, { head := [.srow 5 1000005 3 true (.int .i64), .srow 8 1000008 3 true (.int .i64), .srow 9 1000009 3 true (.int .i64), .sv 10 true (.int .i64)], xid := 2, out := [], hasRet := true, res := [.sv 2 true .bool] })]
noncomputable def law09_IsolateRest_C : List (Nat × Fun) := [(10, law09_awake_fun), (11, law08_Classes_fun), (13, bidic_Isolate_fun), (12, isolate_Match_fun)]
noncomputable def law09_IsolateRest_fun : Fun := ⟨[.sl (.int .u8)], [.v .bool], fun x => law09_IsolateRest_F x.1⟩
theorem law09_IsolateRest_ev (x : Tys.I [.sl (.int .u8)]) : evFun G0 (fun f => olook f law09_IsolateRest_C) ⟨[], []⟩ (fun i => olook i law09_IsolateRest_L) Try.f5 [.sl (.int .u8)] [.v .bool] x = law09_IsolateRest_T x.1 := by kernel_rfl
theorem law09_IsolateRest_ok : FunOk Try.prog 5 law09_IsolateRest_fun := evFun_ok mixed ctx0 (cons_calls law09_awake_ok (cons_calls law08_Classes_ok (cons_calls bidic_Isolate_ok (cons_calls isolate_Match_ok (no_calls))))) Try.func5 (by kernel_rfl) _ (fun x => congrArg Tr.run (law09_IsolateRest_ev x)) (by kernel_rfl) (by kernel_rfl)
/-! ### boustrophedon/boustrophedonlaw09.IsolateAhead -/
noncomputable def law09_IsolateAhead_L7 (cs5 : List Int) (all6 : List Int) (t20 : List Int) (t21 : Int) (t22 : Int) : Tr (Lap (List Int × List Int × List Int × Int × Int) (List Int × List Int)) :=
  .br (decide (t22 < t21)) (
    .bnd (idx t20 t22) fun x_5 =>
    .br (x_5 != 22) (
      .bnd (app 140737488355328 all6 ([x_5])) fun r_6 =>
      .pure (.next (cs5, r_6, t20, t21, IntKind.i64.wrap (t22 + 1)))) (
      .pure (.next (cs5, all6, t20, t21, IntKind.i64.wrap (t22 + 1))))) (
    .pure (.done (cs5, all6)))
noncomputable def law09_IsolateAhead_L16 (m9 : List Int) (n10 : List Int) (t50 : Int) (t51 : Int) : Tr (Lap (List Int × List Int × Int × Int) (Sum Unit Bool)) :=
  .br (decide (t51 < t50)) (
    .br (decide (t51 < (m9.length : Int))) (
      .bnd (idx n10 t51) fun x_10 =>
      .bnd (idx m9 t51) fun x_11 =>
      .br (x_10 != x_11) (
        .pure (.done (.inr false))) (
        .br (decide (t51 ≥ (m9.length : Int))) (
          .bnd (idx n10 t51) fun x_12 =>
          .br (x_12 != (-1)) (
            .pure (.done (.inr false))) (
            .pure (.next (m9, n10, t50, IntKind.i64.wrap (t51 + 1))))) (
          .pure (.next (m9, n10, t50, IntKind.i64.wrap (t51 + 1)))))) (
      .br (decide (t51 ≥ (m9.length : Int))) (
        .bnd (idx n10 t51) fun x_13 =>
        .br (x_13 != (-1)) (
          .pure (.done (.inr false))) (
          .pure (.next (m9, n10, t50, IntKind.i64.wrap (t51 + 1))))) (
        .pure (.next (m9, n10, t50, IntKind.i64.wrap (t51 + 1)))))) (
    .pure (.done (.inl ())))
noncomputable def law09_IsolateAhead_T (ns0 : List Int) (ms1 : List Int) : Tr Bool :=
  .bnd law09_awake_F fun c_1 =>
  .br (!c_1) (
    .pure false) (
    .bnd (law08_Classes_F ns0) fun c_2 =>
    .bnd (app 140737488355328 [] c_2) fun r_3 =>
    .bnd (law08_Classes_F ms1) fun c_4 =>
    .bnd (loopW (fun s => (law09_IsolateAhead_L7 s.1 s.2.1 s.2.2.1 s.2.2.2.1 s.2.2.2.2).run) (c_2, r_3, c_4, (c_4.length : Int), 0)) fun l_7 =>
    .bnd (isolate_Match_F l_7.1) fun c_8 =>
    .bnd (isolate_Match_F l_7.2) fun c_9 =>
    .br ((c_8.length : Int) != (l_7.1.length : Int)) (
      .pure false) (
      .br ((c_9.length : Int) != (l_7.2.length : Int)) (
        .pure false) (
        .alt (loopW (fun s => (law09_IsolateAhead_L16 s.1 s.2.1 s.2.2.1 s.2.2.2).run) (c_8, c_9, (c_9.length : Int), 0)) (fun l_14 =>
          .pure true) (fun l_15 =>
          .pure l_15))))
noncomputable def law09_IsolateAhead_F (ns0 : List Int) (ms1 : List Int) : Option Bool := (law09_IsolateAhead_T ns0 ms1).run
def law09_IsolateAhead_L : List (Nat × LoopAnn) := [(7, { head := [.srow 5 1000005 29 true (.int .u8), .srow 6 1000006 29 true (.int .u8), .srow 20 1000020 29 true (.int .u8), .sv 21 true (.int .i64), .sv 22 true (.int .i64)], xid := 0, out := [.srow 5 1000005 29 true (.int .u8), .srow 6 1000006 29 true (.int .u8)], hasRet := false, res := [] }), (16, { head := [.srow 9 1000009 3 true (.int .i64), .srow 10 1000010 3 true (.int .i64), .sv 50 true (.int .i64), .sv 51 true (.int .i64)], xid := 2, out := [], hasRet := true, res := [.sv 4 true .bool] })]
noncomputable def law09_IsolateAhead_C : List (Nat × Fun) := [(10, law09_awake_fun), (11, law08_Classes_fun), (12, isolate_Match_fun)]
noncomputable def law09_IsolateAhead_fun : Fun := ⟨[.sl (.int .u8), .sl (.int .u8)], [.v .bool], fun x => law09_IsolateAhead_F x.1 x.2.1⟩
theorem law09_IsolateAhead_ev (x : Tys.I [.sl (.int .u8), .sl (.int .u8)]) : evFun G0 (fun f => olook f law09_IsolateAhead_C) ⟨[], []⟩ (fun i => olook i law09_IsolateAhead_L) Try.f6 [.sl (.int .u8), .sl (.int .u8)] [.v .bool] x = law09_IsolateAhead_T x.1 x.2.1 := by kernel_rfl
theorem law09_IsolateAhead_ok : FunOk Try.prog 6 law09_IsolateAhead_fun := evFun_ok mixed ctx0 (cons_calls law09_awake_ok (cons_calls law08_Classes_ok (cons_calls isolate_Match_ok (no_calls)))) Try.func6 (by kernel_rfl) _ (fun x => congrArg Tr.run (law09_IsolateAhead_ev x)) (by kernel_rfl) (by kernel_rfl)
/-! ### slices.Clone[[]int,int] -/
noncomputable def slices_Clone___int_int__T (s0 : List Int) : Tr (List Int) :=
  .bnd (app 17592186044416 ([]) s0) fun r_1 =>
  .pure r_1
noncomputable def slices_Clone___int_int__F (s0 : List Int) : Option (List Int) := (slices_Clone___int_int__T s0).run
def slices_Clone___int_int__L : List (Nat × LoopAnn) := []
noncomputable def slices_Clone___int_int__C : List (Nat × Fun) := []
noncomputable def slices_Clone___int_int__fun : Fun := ⟨[.sl (.int .i64)], [.row 3 (.int .i64)], fun x => slices_Clone___int_int__F x.1⟩
noncomputable def slices_Clone___int_int__T0 : Tr (List Int) :=
  .pure ([])
theorem slices_Clone___int_int__ev0 : evFunS G0 (fun f => olook f slices_Clone___int_int__C) ⟨[], []⟩ (fun i => olook i slices_Clone___int_int__L) Try.f20 [.nil] [.row 3 (.int .i64)] = slices_Clone___int_int__T0 := by kernel_rfl
theorem slices_Clone___int_int__ev1 (s0 : List Int) : evFunS G0 (fun f => olook f slices_Clone___int_int__C) ⟨[], []⟩ (fun i => olook i slices_Clone___int_int__L) Try.f20 [.nn false (.int .i64) s0] [.row 3 (.int .i64)] = slices_Clone___int_int__T s0 := by kernel_rfl
theorem slices_Clone___int_int__nil (r : List Int) (h : slices_Clone___int_int__F [] = some r) : slices_Clone___int_int__T0.run = some r := by
  simp [slices_Clone___int_int__F, slices_Clone___int_int__T, slices_Clone___int_int__T0, app, mk, Tr.run] at h ⊢
  exact h
theorem slices_Clone___int_int__ok : FunOk Try.prog 20 slices_Clone___int_int__fun := evFunN_ok (A := ⟨[], []⟩) (L := fun i => olook i slices_Clone___int_int__L) mixed ctx0 (no_calls) Try.func20 (by kernel_rfl) _ (fun r h => (congrArg Tr.run slices_Clone___int_int__ev0).trans (slices_Clone___int_int__nil r h)) (fun s0 r h => (congrArg Tr.run (slices_Clone___int_int__ev1 s0)).trans h) (by kernel_rfl)
/-! ### boustrophedon/bidic.Embedding -/
noncomputable def bidic_Embedding_T (c0 : Int) : Tr Bool :=
  .br (c0 == 14) (
    .pure true) (
    .br (c0 == 15) (
      .pure true) (
      .br (c0 == 16) (
        .pure true) (
        .pure (c0 == 17))))
noncomputable def bidic_Embedding_F (c0 : Int) : Option Bool := (bidic_Embedding_T c0).run
def bidic_Embedding_L : List (Nat × LoopAnn) := []
noncomputable def bidic_Embedding_C : List (Nat × Fun) := []
noncomputable def bidic_Embedding_fun : Fun := ⟨[.int .u8], [.v .bool], fun x => bidic_Embedding_F x.1⟩
theorem bidic_Embedding_ev (x : Tys.I [.int .u8]) : evFun G0 (fun f => olook f bidic_Embedding_C) ⟨[], []⟩ (fun i => olook i bidic_Embedding_L) Try.f24 [.int .u8] [.v .bool] x = bidic_Embedding_T x.1 := by kernel_rfl
theorem bidic_Embedding_ok : FunOk Try.prog 24 bidic_Embedding_fun := evFun_ok mixed ctx0 (no_calls) Try.func24 (by kernel_rfl) _ (fun x => congrArg Tr.run (bidic_Embedding_ev x)) (by kernel_rfl) (by kernel_rfl)
/-! ### boustrophedon/bidic.Taken -/
noncomputable def bidic_Taken_T (c0 : Int) : Tr Bool :=
  .bnd (bidic_Embedding_F c0) fun c_1 =>
  .br c_1 (
    .pure true) (
    .br (c0 == 18) (
      .pure true) (
      .pure (c0 == 9)))
noncomputable def bidic_Taken_F (c0 : Int) : Option Bool := (bidic_Taken_T c0).run
def bidic_Taken_L : List (Nat × LoopAnn) := []
noncomputable def bidic_Taken_C : List (Nat × Fun) := [(24, bidic_Embedding_fun)]
noncomputable def bidic_Taken_fun : Fun := ⟨[.int .u8], [.v .bool], fun x => bidic_Taken_F x.1⟩
theorem bidic_Taken_ev (x : Tys.I [.int .u8]) : evFun G0 (fun f => olook f bidic_Taken_C) ⟨[], []⟩ (fun i => olook i bidic_Taken_L) Try.f23 [.int .u8] [.v .bool] x = bidic_Taken_T x.1 := by kernel_rfl
theorem bidic_Taken_ok : FunOk Try.prog 23 bidic_Taken_fun := evFun_ok mixed ctx0 (cons_calls bidic_Embedding_ok (no_calls)) Try.func23 (by kernel_rfl) _ (fun x => congrArg Tr.run (bidic_Taken_ev x)) (by kernel_rfl) (by kernel_rfl)
/-! ### boustrophedon/relevel.blank -/
noncomputable def relevel_blank_T (c0 : Int) : Tr Bool :=
  .br (c0 == 12) (
    .pure true) (
    .br (c0 == 22) (
      .pure true) (
      .bnd (bidic_Isolate_F c0) fun c_1 =>
      .br c_1 (
        .pure true) (
        .bnd (bidic_Taken_F c0) fun c_2 =>
        .pure c_2)))
noncomputable def relevel_blank_F (c0 : Int) : Option Bool := (relevel_blank_T c0).run
def relevel_blank_L : List (Nat × LoopAnn) := []
noncomputable def relevel_blank_C : List (Nat × Fun) := [(13, bidic_Isolate_fun), (23, bidic_Taken_fun)]
noncomputable def relevel_blank_fun : Fun := ⟨[.int .u8], [.v .bool], fun x => relevel_blank_F x.1⟩
theorem relevel_blank_ev (x : Tys.I [.int .u8]) : evFun G0 (fun f => olook f relevel_blank_C) ⟨[], []⟩ (fun i => olook i relevel_blank_L) Try.f21 [.int .u8] [.v .bool] x = relevel_blank_T x.1 := by kernel_rfl
theorem relevel_blank_ok : FunOk Try.prog 21 relevel_blank_fun := evFun_ok mixed ctx0 (cons_calls bidic_Isolate_ok (cons_calls bidic_Taken_ok (no_calls))) Try.func21 (by kernel_rfl) _ (fun x => congrArg Tr.run (relevel_blank_ev x)) (by kernel_rfl) (by kernel_rfl)
/-! ### boustrophedon/relevel.Of -/
noncomputable def relevel_Of_L6 (cs1 : List Int) (bases2 : List Int) (out7 : List Int) (trailing8 : Bool) (i9 : Int) : Tr (Lap (List Int × List Int × List Int × Bool × Int) (List Int)) :=
  .br (decide (i9 ≥ 0)) (
    .bnd (idx cs1 i9) fun x_2 =>
    .br (x_2 == 11) (
      .bnd (idx out7 i9) fun x_3 =>
      .br (x_3 != (-1)) (
        .bnd (idx bases2 i9) fun x_4 =>
        .bnd (idx out7 i9) fun x_5 =>
        .pure (.next (cs1, bases2, out7.set (Int.toNat i9) x_4, true, IntKind.i64.wrap (i9 - 1)))) (
        .pure (.next (cs1, bases2, out7, true, IntKind.i64.wrap (i9 - 1))))) (
      .bnd (idx cs1 i9) fun x_6 =>
      .br (x_6 == 10) (
        .bnd (idx out7 i9) fun x_7 =>
        .br (x_7 != (-1)) (
          .bnd (idx bases2 i9) fun x_8 =>
          .bnd (idx out7 i9) fun x_9 =>
          .pure (.next (cs1, bases2, out7.set (Int.toNat i9) x_8, true, IntKind.i64.wrap (i9 - 1)))) (
          .pure (.next (cs1, bases2, out7, true, IntKind.i64.wrap (i9 - 1))))) (
        .br trailing8 (
          .bnd (idx cs1 i9) fun x_10 =>
          .bnd (relevel_blank_F x_10) fun c_11 =>
          .br c_11 (
            .bnd (idx out7 i9) fun x_12 =>
            .br (x_12 != (-1)) (
              .bnd (idx bases2 i9) fun x_13 =>
              .bnd (idx out7 i9) fun x_14 =>
              .pure (.next (cs1, bases2, out7.set (Int.toNat i9) x_13, c_11, IntKind.i64.wrap (i9 - 1)))) (
              .pure (.next (cs1, bases2, out7, c_11, IntKind.i64.wrap (i9 - 1))))) (
            .pure (.next (cs1, bases2, out7, c_11, IntKind.i64.wrap (i9 - 1))))) (
          .pure (.next (cs1, bases2, out7, false, IntKind.i64.wrap (i9 - 1))))))) (
    .pure (.done out7))
noncomputable def relevel_Of_T (levels0 : List Int) (cs1 : List Int) (bases2 : List Int) : Tr (List Int) :=
  .bnd (slices_Clone___int_int__F levels0) fun c_1 =>
  .br ((cs1.length : Int) != (levels0.length : Int)) (
    .pure c_1) (
    .br ((bases2.length : Int) != (levels0.length : Int)) (
      .pure c_1) (
      .bnd (loopW (fun s => (relevel_Of_L6 s.1 s.2.1 s.2.2.1 s.2.2.2.1 s.2.2.2.2).run) (cs1, bases2, c_1, true, IntKind.i64.wrap ((c_1.length : Int) - 1))) fun l_15 =>
      .pure l_15))
noncomputable def relevel_Of_F (levels0 : List Int) (cs1 : List Int) (bases2 : List Int) : Option (List Int) := (relevel_Of_T levels0 cs1 bases2).run
def relevel_Of_L : List (Nat × LoopAnn) := [(6, { head := [.sv 1 false (.sl (.int .u8)), .sv 2 false (.sl (.int .i64)), .srow 7 1000007 3 true (.int .i64), .sv 8 true .bool, .sv 9 true (.int .i64)], xid := 0, out := [.srow 7 1000007 3 true (.int .i64)], hasRet := false, res := [] })]
noncomputable def relevel_Of_C : List (Nat × Fun) := [(20, slices_Clone___int_int__fun), (21, relevel_blank_fun)]
noncomputable def relevel_Of_fun : Fun := ⟨[.sl (.int .i64), .sl (.int .u8), .sl (.int .i64)], [.row 3 (.int .i64)], fun x => relevel_Of_F x.1 x.2.1 x.2.2.1⟩
theorem relevel_Of_ev (x : Tys.I [.sl (.int .i64), .sl (.int .u8), .sl (.int .i64)]) : evFun G0 (fun f => olook f relevel_Of_C) ⟨[], []⟩ (fun i => olook i relevel_Of_L) Try.f18 [.sl (.int .i64), .sl (.int .u8), .sl (.int .i64)] [.row 3 (.int .i64)] x = relevel_Of_T x.1 x.2.1 x.2.2.1 := by kernel_rfl
theorem relevel_Of_ok : FunOk Try.prog 18 relevel_Of_fun := evFun_ok mixed ctx0 (cons_calls slices_Clone___int_int__ok (cons_calls relevel_blank_ok (no_calls))) Try.func18 (by kernel_rfl) _ (fun x => congrArg Tr.run (relevel_Of_ev x)) (by kernel_rfl) (by kernel_rfl)
/-! ### boustrophedon/boustrophedonlaw24.awake -/
noncomputable def law24_awake_T : Tr Bool :=
  .bnd (relevel_Of_F ([1, 1, 1, 1]) ([1, 12, 11, 12]) ([0, 0, 0, 0])) fun c_1 =>
  .br ((c_1.length : Int) == 4) (
    .bnd (idx c_1 0) fun x_2 =>
    .br (x_2 == 1) (
      .bnd (idx c_1 1) fun x_3 =>
      .br (x_3 == 0) (
        .bnd (idx c_1 2) fun x_4 =>
        .br (x_4 == 0) (
          .bnd (idx c_1 3) fun x_5 =>
          .pure (x_5 == 0)) (
          .pure false)) (
        .pure false)) (
      .pure false)) (
    .pure false)
noncomputable def law24_awake_F : Option Bool := (law24_awake_T).run
def law24_awake_L : List (Nat × LoopAnn) := []
noncomputable def law24_awake_C : List (Nat × Fun) := [(18, relevel_Of_fun)]
noncomputable def law24_awake_fun : Fun := ⟨[], [.v .bool], fun _ => law24_awake_F⟩
theorem law24_awake_ev (x : Tys.I []) : evFun G0 (fun f => olook f law24_awake_C) ⟨[], []⟩ (fun i => olook i law24_awake_L) Try.f15 [] [.v .bool] x = law24_awake_T := by kernel_rfl
theorem law24_awake_ok : FunOk Try.prog 15 law24_awake_fun := evFun_ok mixed ctx0 (cons_calls relevel_Of_ok (no_calls)) Try.func15 (by kernel_rfl) _ (fun x => congrArg Tr.run (law24_awake_ev x)) (by kernel_rfl) (by kernel_rfl)
/-! ### boustrophedon/boustrophedonlaw12.Levels -/
noncomputable def law12_Levels_L3 (ns0 : List Int) (out3 : List Int) (k4 : Int) : Tr (Lap (List Int × List Int × Int) (List Int)) :=
  .br (decide (k4 < (ns0.length : Int))) (
    .bnd (idx ns0 k4) fun x_1 =>
    .br ((x_1.tmod 8) == 7) (
      .bnd (app 17592186044416 out3 ([(-1)])) fun r_2 =>
      .pure (.next (ns0, r_2, IntKind.i64.wrap (k4 + 1)))) (
      .bnd (idx ns0 k4) fun x_3 =>
      .bnd (app 17592186044416 out3 ([(IntKind.i64.wrap (IntKind.u8.wrap (x_3.tdiv 8))).tmod 6])) fun r_4 =>
      .pure (.next (ns0, r_4, IntKind.i64.wrap (k4 + 1))))) (
    .pure (.done out3))
noncomputable def law12_Levels_T (ns0 : List Int) : Tr (List Int) :=
  .bnd (loopW (fun s => (law12_Levels_L3 s.1 s.2.1 s.2.2).run) (ns0, [], 0)) fun l_5 =>
  .pure l_5
noncomputable def law12_Levels_F (ns0 : List Int) : Option (List Int) := (law12_Levels_T ns0).run
def law12_Levels_L : List (Nat × LoopAnn) := [(3, { head := [.sv 0 false (.sl (.int .u8)), .srow 3 1000003 3 true (.int .i64), .sv 4 true (.int .i64)], xid := 0, out := [.srow 3 1000003 3 true (.int .i64)], hasRet := false, res := [] })]
noncomputable def law12_Levels_C : List (Nat × Fun) := []
noncomputable def law12_Levels_fun : Fun := ⟨[.sl (.int .u8)], [.row 3 (.int .i64)], fun x => law12_Levels_F x.1⟩
theorem law12_Levels_ev (x : Tys.I [.sl (.int .u8)]) : evFun G0 (fun f => olook f law12_Levels_C) ⟨[], []⟩ (fun i => olook i law12_Levels_L) Try.f16 [.sl (.int .u8)] [.row 3 (.int .i64)] x = law12_Levels_T x.1 := by kernel_rfl
theorem law12_Levels_ok : FunOk Try.prog 16 law12_Levels_fun := evFun_ok mixed ctx0 (no_calls) Try.func16 (by kernel_rfl) _ (fun x => congrArg Tr.run (law12_Levels_ev x)) (by kernel_rfl) (by kernel_rfl)
/-! ### boustrophedon/boustrophedonlaw24.Bases -/
noncomputable def law24_Bases_L3 (out3 : List Int) (t6 : List Int) (t7 : Int) (t8 : Int) : Tr (Lap (List Int × List Int × Int × Int) (List Int)) :=
  .br (decide (t8 < t7)) (
    .bnd (idx t6 t8) fun x_1 =>
    .bnd (app 17592186044416 out3 ([IntKind.i64.wrap (x_1.tmod 2)])) fun r_2 =>
    .pure (.next (r_2, t6, t7, IntKind.i64.wrap (t8 + 1)))) (
    .pure (.done out3))
noncomputable def law24_Bases_T (ns0 : List Int) : Tr (List Int) :=
  .bnd (loopW (fun s => (law24_Bases_L3 s.1 s.2.1 s.2.2.1 s.2.2.2).run) ([], ns0, (ns0.length : Int), 0)) fun l_3 =>
  .pure l_3
noncomputable def law24_Bases_F (ns0 : List Int) : Option (List Int) := (law24_Bases_T ns0).run
def law24_Bases_L : List (Nat × LoopAnn) := [(3, { head := [.srow 3 1000003 3 true (.int .i64), .sv 6 false (.sl (.int .u8)), .sv 7 true (.int .i64), .sv 8 true (.int .i64)], xid := 0, out := [.srow 3 1000003 3 true (.int .i64)], hasRet := false, res := [] })]
noncomputable def law24_Bases_C : List (Nat × Fun) := []
noncomputable def law24_Bases_fun : Fun := ⟨[.sl (.int .u8)], [.row 3 (.int .i64)], fun x => law24_Bases_F x.1⟩
theorem law24_Bases_ev (x : Tys.I [.sl (.int .u8)]) : evFun G0 (fun f => olook f law24_Bases_C) ⟨[], []⟩ (fun i => olook i law24_Bases_L) Try.f17 [.sl (.int .u8)] [.row 3 (.int .i64)] x = law24_Bases_T x.1 := by kernel_rfl
theorem law24_Bases_ok : FunOk Try.prog 17 law24_Bases_fun := evFun_ok mixed ctx0 (no_calls) Try.func17 (by kernel_rfl) _ (fun x => congrArg Tr.run (law24_Bases_ev x)) (by kernel_rfl) (by kernel_rfl)
/-! ### boustrophedon/boustrophedonlaw24.blank -/
noncomputable def law24_blank_T (c0 : Int) : Tr Bool :=
  .br (c0 == 12) (
    .pure true) (
    .br (c0 == 19) (
      .pure true) (
      .br (c0 == 20) (
        .pure true) (
        .br (c0 == 21) (
          .pure true) (
          .br (c0 == 22) (
            .pure true) (
            .br (c0 == 14) (
              .pure true) (
              .br (c0 == 15) (
                .pure true) (
                .br (c0 == 16) (
                  .pure true) (
                  .br (c0 == 17) (
                    .pure true) (
                    .br (c0 == 18) (
                      .pure true) (
                      .br (c0 == 9) (
                        .pure true) (
                        .pure false)))))))))))
noncomputable def law24_blank_F (c0 : Int) : Option Bool := (law24_blank_T c0).run
def law24_blank_L : List (Nat × LoopAnn) := []
noncomputable def law24_blank_C : List (Nat × Fun) := []
noncomputable def law24_blank_fun : Fun := ⟨[.int .u8], [.v .bool], fun x => law24_blank_F x.1⟩
theorem law24_blank_ev (x : Tys.I [.int .u8]) : evFun G0 (fun f => olook f law24_blank_C) ⟨[], []⟩ (fun i => olook i law24_blank_L) Try.f22 [.int .u8] [.v .bool] x = law24_blank_T x.1 := by kernel_rfl
theorem law24_blank_ok : FunOk Try.prog 22 law24_blank_fun := evFun_ok mixed ctx0 (no_calls) Try.func22 (by kernel_rfl) _ (fun x => congrArg Tr.run (law24_blank_ev x)) (by kernel_rfl) (by kernel_rfl)
/-! ### boustrophedon/boustrophedonlaw24.back -/
noncomputable def law24_back_L4 (cs0 : List Int) (k5 : Int) : Tr (Lap (List Int × Int) (Sum Unit Bool)) :=
  .br (decide (k5 < (cs0.length : Int))) (
    .bnd (idx cs0 k5) fun x_3 =>
    .br (x_3 == 11) (
      .pure (.done (.inr true))) (
      .bnd (idx cs0 k5) fun x_4 =>
      .br (x_4 == 10) (
        .pure (.done (.inr true))) (
        .bnd (idx cs0 k5) fun x_5 =>
        .bnd (law24_blank_F x_5) fun c_6 =>
        .br (!c_6) (
          .pure (.done (.inr false))) (
          .pure (.next (cs0, IntKind.i64.wrap (k5 + 1))))))) (
    .pure (.done (.inl ())))
noncomputable def law24_back_T (cs0 : List Int) (at1 : Int) : Tr Bool :=
  .bnd (idx cs0 at1) fun x_1 =>
  .br (x_1 == 11) (
    .pure true) (
    .bnd (idx cs0 at1) fun x_2 =>
    .br (x_2 == 10) (
      .pure true) (
      .alt (loopW (fun s => (law24_back_L4 s.1 s.2).run) (cs0, at1)) (fun l_7 =>
        .pure true) (fun l_8 =>
        .pure l_8)))
noncomputable def law24_back_F (cs0 : List Int) (at1 : Int) : Option Bool := (law24_back_T cs0 at1).run
def law24_back_L : List (Nat × LoopAnn) := [(4, { head := [.sv 0 false (.sl (.int .u8)), .sv 5 false (.int .i64)], xid := 0, out := [], hasRet := true, res := [.sv 4 true .bool] })]
noncomputable def law24_back_C : List (Nat × Fun) := [(22, law24_blank_fun)]
noncomputable def law24_back_fun : Fun := ⟨[.sl (.int .u8), .int .i64], [.v .bool], fun x => law24_back_F x.1 x.2.1⟩
theorem law24_back_ev (x : Tys.I [.sl (.int .u8), .int .i64]) : evFun G0 (fun f => olook f law24_back_C) ⟨[], []⟩ (fun i => olook i law24_back_L) Try.f19 [.sl (.int .u8), .int .i64] [.v .bool] x = law24_back_T x.1 x.2.1 := by kernel_rfl
theorem law24_back_ok : FunOk Try.prog 19 law24_back_fun := evFun_ok mixed ctx0 (cons_calls law24_blank_ok (no_calls)) Try.func19 (by kernel_rfl) _ (fun x => congrArg Tr.run (law24_back_ev x)) (by kernel_rfl) (by kernel_rfl)
/-! ### boustrophedon/boustrophedonlaw24.RelevelOf -/
noncomputable def law24_RelevelOf_L10 (ls0 : List Int) (levels7 : List Int) (cs8 : List Int) (bases9 : List Int) (whole10 : List Int) (n11 : Int) (t58 : Int) (t59 : Int) : Tr (Lap (List Int × List Int × List Int × List Int × List Int × Int × Int × Int) (Sum (List Int × List Int × List Int × List Int × Int) Bool)) :=
  .br (decide (t59 < t58)) (
    .bnd (idx whole10 t59) fun x_6 =>
    .bnd (idx levels7 t59) fun x_7 =>
    .br (x_6 != x_7) (
      .pure (.done (.inr false))) (
      .pure (.next (ls0, levels7, cs8, bases9, whole10, n11, t58, IntKind.i64.wrap (t59 + 1))))) (
    .pure (.done (.inl (ls0, levels7, cs8, bases9, n11))))
noncomputable def law24_RelevelOf_L18 (levels7 : List Int) (cs8 : List Int) (bases9 : List Int) (n11 : Int) (out13 : List Int) (was14 : List Int) (k15 : Int) : Tr (Lap (List Int × List Int × List Int × Int × List Int × List Int × Int) (Sum Unit Bool)) :=
  .br (decide (k15 < n11)) (
    .bnd (idx was14 k15) fun x_14 =>
    .br (x_14 != (-1)) (
      .bnd (cut cs8 0 n11) fun r_15 =>
      .bnd (law24_back_F r_15 k15) fun c_16 =>
      .br c_16 (
        .bnd (idx bases9 k15) fun x_17 =>
        .br ((out13.length : Int) != n11) (
          .pure (.done (.inr false))) (
          .bnd (idx out13 k15) fun x_18 =>
          .br (x_18 != x_17) (
            .pure (.done (.inr false))) (
            .bnd (idx levels7 k15) fun x_19 =>
            .bnd (idx was14 k15) fun x_20 =>
            .br (x_19 != x_20) (
              .pure (.done (.inr false))) (
              .pure (.next (levels7, cs8, bases9, n11, out13, was14, IntKind.i64.wrap (k15 + 1))))))) (
        .br ((out13.length : Int) != n11) (
          .pure (.done (.inr false))) (
          .bnd (idx out13 k15) fun x_21 =>
          .br (x_21 != x_14) (
            .pure (.done (.inr false))) (
            .bnd (idx levels7 k15) fun x_22 =>
            .bnd (idx was14 k15) fun x_23 =>
            .br (x_22 != x_23) (
              .pure (.done (.inr false))) (
              .pure (.next (levels7, cs8, bases9, n11, out13, was14, IntKind.i64.wrap (k15 + 1)))))))) (
      .br ((out13.length : Int) != n11) (
        .pure (.done (.inr false))) (
        .bnd (idx out13 k15) fun x_24 =>
        .br (x_24 != x_14) (
          .pure (.done (.inr false))) (
          .bnd (idx levels7 k15) fun x_25 =>
          .bnd (idx was14 k15) fun x_26 =>
          .br (x_25 != x_26) (
            .pure (.done (.inr false))) (
            .pure (.next (levels7, cs8, bases9, n11, out13, was14, IntKind.i64.wrap (k15 + 1)))))))) (
    .pure (.done (.inl ())))
noncomputable def law24_RelevelOf_T (ls0 : List Int) (ns1 : List Int) (bs2 : List Int) : Tr Bool :=
  .bnd law24_awake_F fun c_1 =>
  .br (!c_1) (
    .pure false) (
    .bnd (law12_Levels_F ls0) fun c_2 =>
    .bnd (law08_Classes_F ns1) fun c_3 =>
    .bnd (law24_Bases_F bs2) fun c_4 =>
    .bnd (relevel_Of_F c_2 c_3 c_4) fun c_5 =>
    .br ((c_5.length : Int) != (c_2.length : Int)) (
      .pure false) (
      .br (decide ((if (c_4.length : Int) < (if (c_3.length : Int) < (c_2.length : Int) then (c_3.length : Int) else (c_2.length : Int)) then (c_4.length : Int) else (if (c_3.length : Int) < (c_2.length : Int) then (c_3.length : Int) else (c_2.length : Int))) < (c_2.length : Int))) (
        .alt (loopW (fun s => (law24_RelevelOf_L10 s.1 s.2.1 s.2.2.1 s.2.2.2.1 s.2.2.2.2.1 s.2.2.2.2.2.1 s.2.2.2.2.2.2.1 s.2.2.2.2.2.2.2).run) (ls0, c_2, c_3, c_4, c_5, if (c_4.length : Int) < (if (c_3.length : Int) < (c_2.length : Int) then (c_3.length : Int) else (c_2.length : Int)) then (c_4.length : Int) else (if (c_3.length : Int) < (c_2.length : Int) then (c_3.length : Int) else (c_2.length : Int)), (c_5.length : Int), 0)) (fun l_8 =>
          .bnd (cut l_8.2.1 0 l_8.2.2.2.2) fun r_9 =>
          .bnd (cut l_8.2.2.1 0 l_8.2.2.2.2) fun r_10 =>
          .bnd (cut l_8.2.2.2.1 0 l_8.2.2.2.2) fun r_11 =>
          .bnd (relevel_Of_F r_9 r_10 r_11) fun c_12 =>
          .bnd (law12_Levels_F l_8.1) fun c_13 =>
          .alt (loopW (fun s => (law24_RelevelOf_L18 s.1 s.2.1 s.2.2.1 s.2.2.2.1 s.2.2.2.2.1 s.2.2.2.2.2.1 s.2.2.2.2.2.2).run) (l_8.2.1, l_8.2.2.1, l_8.2.2.2.1, l_8.2.2.2.2, c_12, c_13, 0)) (fun l_27 =>
            .pure true) (fun l_28 =>
            .pure l_28)) (fun l_29 =>
          .pure l_29)) (
        .br (decide ((if (c_4.length : Int) < (if (c_3.length : Int) < (c_2.length : Int) then (c_3.length : Int) else (c_2.length : Int)) then (c_4.length : Int) else (if (c_3.length : Int) < (c_2.length : Int) then (c_3.length : Int) else (c_2.length : Int))) < (c_3.length : Int))) (
          .alt (loopW (fun s => (law24_RelevelOf_L10 s.1 s.2.1 s.2.2.1 s.2.2.2.1 s.2.2.2.2.1 s.2.2.2.2.2.1 s.2.2.2.2.2.2.1 s.2.2.2.2.2.2.2).run) (ls0, c_2, c_3, c_4, c_5, if (c_4.length : Int) < (if (c_3.length : Int) < (c_2.length : Int) then (c_3.length : Int) else (c_2.length : Int)) then (c_4.length : Int) else (if (c_3.length : Int) < (c_2.length : Int) then (c_3.length : Int) else (c_2.length : Int)), (c_5.length : Int), 0)) (fun l_30 =>
            .bnd (cut l_30.2.1 0 l_30.2.2.2.2) fun r_31 =>
            .bnd (cut l_30.2.2.1 0 l_30.2.2.2.2) fun r_32 =>
            .bnd (cut l_30.2.2.2.1 0 l_30.2.2.2.2) fun r_33 =>
            .bnd (relevel_Of_F r_31 r_32 r_33) fun c_34 =>
            .bnd (law12_Levels_F l_30.1) fun c_35 =>
            .alt (loopW (fun s => (law24_RelevelOf_L18 s.1 s.2.1 s.2.2.1 s.2.2.2.1 s.2.2.2.2.1 s.2.2.2.2.2.1 s.2.2.2.2.2.2).run) (l_30.2.1, l_30.2.2.1, l_30.2.2.2.1, l_30.2.2.2.2, c_34, c_35, 0)) (fun l_36 =>
              .pure true) (fun l_37 =>
              .pure l_37)) (fun l_38 =>
            .pure l_38)) (
          .br (decide ((if (c_4.length : Int) < (if (c_3.length : Int) < (c_2.length : Int) then (c_3.length : Int) else (c_2.length : Int)) then (c_4.length : Int) else (if (c_3.length : Int) < (c_2.length : Int) then (c_3.length : Int) else (c_2.length : Int))) < (c_4.length : Int))) (
            .alt (loopW (fun s => (law24_RelevelOf_L10 s.1 s.2.1 s.2.2.1 s.2.2.2.1 s.2.2.2.2.1 s.2.2.2.2.2.1 s.2.2.2.2.2.2.1 s.2.2.2.2.2.2.2).run) (ls0, c_2, c_3, c_4, c_5, if (c_4.length : Int) < (if (c_3.length : Int) < (c_2.length : Int) then (c_3.length : Int) else (c_2.length : Int)) then (c_4.length : Int) else (if (c_3.length : Int) < (c_2.length : Int) then (c_3.length : Int) else (c_2.length : Int)), (c_5.length : Int), 0)) (fun l_39 =>
              .bnd (cut l_39.2.1 0 l_39.2.2.2.2) fun r_40 =>
              .bnd (cut l_39.2.2.1 0 l_39.2.2.2.2) fun r_41 =>
              .bnd (cut l_39.2.2.2.1 0 l_39.2.2.2.2) fun r_42 =>
              .bnd (relevel_Of_F r_40 r_41 r_42) fun c_43 =>
              .bnd (law12_Levels_F l_39.1) fun c_44 =>
              .alt (loopW (fun s => (law24_RelevelOf_L18 s.1 s.2.1 s.2.2.1 s.2.2.2.1 s.2.2.2.2.1 s.2.2.2.2.2.1 s.2.2.2.2.2.2).run) (l_39.2.1, l_39.2.2.1, l_39.2.2.2.1, l_39.2.2.2.2, c_43, c_44, 0)) (fun l_45 =>
                .pure true) (fun l_46 =>
                .pure l_46)) (fun l_47 =>
              .pure l_47)) (
            .bnd (cut c_2 0 (if (c_4.length : Int) < (if (c_3.length : Int) < (c_2.length : Int) then (c_3.length : Int) else (c_2.length : Int)) then (c_4.length : Int) else (if (c_3.length : Int) < (c_2.length : Int) then (c_3.length : Int) else (c_2.length : Int)))) fun r_48 =>
            .bnd (cut c_3 0 (if (c_4.length : Int) < (if (c_3.length : Int) < (c_2.length : Int) then (c_3.length : Int) else (c_2.length : Int)) then (c_4.length : Int) else (if (c_3.length : Int) < (c_2.length : Int) then (c_3.length : Int) else (c_2.length : Int)))) fun r_49 =>
            .bnd (cut c_4 0 (if (c_4.length : Int) < (if (c_3.length : Int) < (c_2.length : Int) then (c_3.length : Int) else (c_2.length : Int)) then (c_4.length : Int) else (if (c_3.length : Int) < (c_2.length : Int) then (c_3.length : Int) else (c_2.length : Int)))) fun r_50 =>
            .bnd (relevel_Of_F r_48 r_49 r_50) fun c_51 =>
            .bnd (law12_Levels_F ls0) fun c_52 =>
            .alt (loopW (fun s => (law24_RelevelOf_L18 s.1 s.2.1 s.2.2.1 s.2.2.2.1 s.2.2.2.2.1 s.2.2.2.2.2.1 s.2.2.2.2.2.2).run) (c_2, c_3, c_4, if (c_4.length : Int) < (if (c_3.length : Int) < (c_2.length : Int) then (c_3.length : Int) else (c_2.length : Int)) then (c_4.length : Int) else (if (c_3.length : Int) < (c_2.length : Int) then (c_3.length : Int) else (c_2.length : Int)), c_51, c_52, 0)) (fun l_53 =>
              .pure true) (fun l_54 =>
              .pure l_54))))))
noncomputable def law24_RelevelOf_F (ls0 : List Int) (ns1 : List Int) (bs2 : List Int) : Option Bool := (law24_RelevelOf_T ls0 ns1 bs2).run
def law24_RelevelOf_L : List (Nat × LoopAnn) := [(10, { head := [.sv 0 false (.sl (.int .u8)), .srow 7 1000007 3 true (.int .i64), .srow 8 1000008 29 true (.int .u8), .srow 9 1000009 3 true (.int .i64), .srow 10 1000010 3 true (.int .i64), .sv 11 true (.int .i64), .sv 58 true (.int .i64), .sv 59 true (.int .i64)], xid := 0, out := [.sv 0 false (.sl (.int .u8)), .srow 7 1000007 3 true (.int .i64), .srow 8 1000008 29 true (.int .u8), .srow 9 1000009 3 true (.int .i64), .sv 11 true (.int .i64)], hasRet := true, res := [.sv 6 true .bool] }), (18, { head := [.srow 7 1000007 3 true (.int .i64), .srow 8 1000008 29 true (.int .u8), .srow 9 1000009 3 true (.int .i64), .sv 11 true (.int .i64), .srow 13 1000013 3 true (.int .i64), .srow 14 1000014 3 true (.int .i64), .sv 15 true (.int .i64)], xid := 2, out := [], hasRet := true, res := [.sv 6 true .bool] })]
noncomputable def law24_RelevelOf_C : List (Nat × Fun) := [(15, law24_awake_fun), (16, law12_Levels_fun), (11, law08_Classes_fun), (17, law24_Bases_fun), (18, relevel_Of_fun), (19, law24_back_fun)]
noncomputable def law24_RelevelOf_fun : Fun := ⟨[.sl (.int .u8), .sl (.int .u8), .sl (.int .u8)], [.v .bool], fun x => law24_RelevelOf_F x.1 x.2.1 x.2.2.1⟩
theorem law24_RelevelOf_ev (x : Tys.I [.sl (.int .u8), .sl (.int .u8), .sl (.int .u8)]) : evFun G0 (fun f => olook f law24_RelevelOf_C) ⟨[], []⟩ (fun i => olook i law24_RelevelOf_L) Try.f7 [.sl (.int .u8), .sl (.int .u8), .sl (.int .u8)] [.v .bool] x = law24_RelevelOf_T x.1 x.2.1 x.2.2.1 := by kernel_rfl
theorem law24_RelevelOf_ok : FunOk Try.prog 7 law24_RelevelOf_fun := evFun_ok mixed ctx0 (cons_calls law24_awake_ok (cons_calls law12_Levels_ok (cons_calls law08_Classes_ok (cons_calls law24_Bases_ok (cons_calls relevel_Of_ok (cons_calls law24_back_ok (no_calls))))))) Try.func7 (by kernel_rfl) _ (fun x => congrArg Tr.run (law24_RelevelOf_ev x)) (by kernel_rfl) (by kernel_rfl)
/-! ### boustrophedon/boustrophedonlaw24.RelevelTwice -/
noncomputable def law24_RelevelTwice_L10 (levels7 : List Int) (n10 : Int) (a11 : List Int) (b12 : List Int) (c14 : List Int) (k15 : Int) : Tr (Lap (List Int × Int × List Int × List Int × List Int × Int) (Sum Unit Bool)) :=
  .br (decide (k15 < n10)) (
    .br ((a11.length : Int) != n10) (
      .pure (.done (.inr false))) (
      .br ((b12.length : Int) != n10) (
        .pure (.done (.inr false))) (
        .br ((c14.length : Int) != n10) (
          .pure (.done (.inr false))) (
          .bnd (idx a11 k15) fun x_16 =>
          .bnd (idx b12 k15) fun x_17 =>
          .br (x_16 != x_17) (
            .pure (.done (.inr false))) (
            .bnd (idx c14 k15) fun x_18 =>
            .bnd (idx levels7 k15) fun x_19 =>
            .br (x_18 != x_19) (
              .pure (.done (.inr false))) (
              .pure (.next (levels7, n10, a11, b12, c14, IntKind.i64.wrap (k15 + 1))))))))) (
    .pure (.done (.inl ())))
noncomputable def law24_RelevelTwice_T (ls0 : List Int) (ns1 : List Int) (bs2 : List Int) : Tr Bool :=
  .bnd law24_awake_F fun c_1 =>
  .br (!c_1) (
    .pure false) (
    .bnd (law12_Levels_F ls0) fun c_2 =>
    .bnd (law08_Classes_F ns1) fun c_3 =>
    .bnd (law24_Bases_F bs2) fun c_4 =>
    .bnd (cut c_2 0 (if (c_4.length : Int) < (if (c_3.length : Int) < (c_2.length : Int) then (c_3.length : Int) else (c_2.length : Int)) then (c_4.length : Int) else (if (c_3.length : Int) < (c_2.length : Int) then (c_3.length : Int) else (c_2.length : Int)))) fun r_5 =>
    .bnd (cut c_3 0 (if (c_4.length : Int) < (if (c_3.length : Int) < (c_2.length : Int) then (c_3.length : Int) else (c_2.length : Int)) then (c_4.length : Int) else (if (c_3.length : Int) < (c_2.length : Int) then (c_3.length : Int) else (c_2.length : Int)))) fun r_6 =>
    .bnd (cut c_4 0 (if (c_4.length : Int) < (if (c_3.length : Int) < (c_2.length : Int) then (c_3.length : Int) else (c_2.length : Int)) then (c_4.length : Int) else (if (c_3.length : Int) < (c_2.length : Int) then (c_3.length : Int) else (c_2.length : Int)))) fun r_7 =>
    .bnd (relevel_Of_F r_5 r_6 r_7) fun c_8 =>
    .bnd (cut c_3 0 (if (c_4.length : Int) < (if (c_3.length : Int) < (c_2.length : Int) then (c_3.length : Int) else (c_2.length : Int)) then (c_4.length : Int) else (if (c_3.length : Int) < (c_2.length : Int) then (c_3.length : Int) else (c_2.length : Int)))) fun r_9 =>
    .bnd (cut c_4 0 (if (c_4.length : Int) < (if (c_3.length : Int) < (c_2.length : Int) then (c_3.length : Int) else (c_2.length : Int)) then (c_4.length : Int) else (if (c_3.length : Int) < (c_2.length : Int) then (c_3.length : Int) else (c_2.length : Int)))) fun r_10 =>
    .bnd (relevel_Of_F c_8 r_9 r_10) fun c_11 =>
    .bnd (mk 140737488355328 0 (if (c_4.length : Int) < (if (c_3.length : Int) < (c_2.length : Int) then (c_3.length : Int) else (c_2.length : Int)) then (c_4.length : Int) else (if (c_3.length : Int) < (c_2.length : Int) then (c_3.length : Int) else (c_2.length : Int)))) fun r_12 =>
    .bnd (cut c_2 0 (if (c_4.length : Int) < (if (c_3.length : Int) < (c_2.length : Int) then (c_3.length : Int) else (c_2.length : Int)) then (c_4.length : Int) else (if (c_3.length : Int) < (c_2.length : Int) then (c_3.length : Int) else (c_2.length : Int)))) fun r_13 =>
    .bnd (cut c_4 0 (if (c_4.length : Int) < (if (c_3.length : Int) < (c_2.length : Int) then (c_3.length : Int) else (c_2.length : Int)) then (c_4.length : Int) else (if (c_3.length : Int) < (c_2.length : Int) then (c_3.length : Int) else (c_2.length : Int)))) fun r_14 =>
    .bnd (relevel_Of_F r_13 r_12 r_14) fun c_15 =>
    .alt (loopW (fun s => (law24_RelevelTwice_L10 s.1 s.2.1 s.2.2.1 s.2.2.2.1 s.2.2.2.2.1 s.2.2.2.2.2).run) (c_2, if (c_4.length : Int) < (if (c_3.length : Int) < (c_2.length : Int) then (c_3.length : Int) else (c_2.length : Int)) then (c_4.length : Int) else (if (c_3.length : Int) < (c_2.length : Int) then (c_3.length : Int) else (c_2.length : Int)), c_8, c_11, c_15, 0)) (fun l_20 =>
      .pure true) (fun l_21 =>
      .pure l_21))
noncomputable def law24_RelevelTwice_F (ls0 : List Int) (ns1 : List Int) (bs2 : List Int) : Option Bool := (law24_RelevelTwice_T ls0 ns1 bs2).run
def law24_RelevelTwice_L : List (Nat × LoopAnn) := [(10, { head := [.srow 7 1000007 3 true (.int .i64), .sv 10 true (.int .i64), .srow 11 1000011 3 true (.int .i64), .srow 12 1000012 3 true (.int .i64), .srow 14 1000014 3 true (.int .i64), .sv 15 true (.int .i64)], xid := 0, out := [], hasRet := true, res := [.sv 6 true .bool] })]
noncomputable def law24_RelevelTwice_C : List (Nat × Fun) := [(15, law24_awake_fun), (16, law12_Levels_fun), (11, law08_Classes_fun), (17, law24_Bases_fun), (18, relevel_Of_fun)]
noncomputable def law24_RelevelTwice_fun : Fun := ⟨[.sl (.int .u8), .sl (.int .u8), .sl (.int .u8)], [.v .bool], fun x => law24_RelevelTwice_F x.1 x.2.1 x.2.2.1⟩
theorem law24_RelevelTwice_ev (x : Tys.I [.sl (.int .u8), .sl (.int .u8), .sl (.int .u8)]) : evFun G0 (fun f => olook f law24_RelevelTwice_C) ⟨[], []⟩ (fun i => olook i law24_RelevelTwice_L) Try.f8 [.sl (.int .u8), .sl (.int .u8), .sl (.int .u8)] [.v .bool] x = law24_RelevelTwice_T x.1 x.2.1 x.2.2.1 := by kernel_rfl
theorem law24_RelevelTwice_ok : FunOk Try.prog 8 law24_RelevelTwice_fun := evFun_ok mixed ctx0 (cons_calls law24_awake_ok (cons_calls law12_Levels_ok (cons_calls law08_Classes_ok (cons_calls law24_Bases_ok (cons_calls relevel_Of_ok (no_calls)))))) Try.func8 (by kernel_rfl) _ (fun x => congrArg Tr.run (law24_RelevelTwice_ev x)) (by kernel_rfl) (by kernel_rfl)
/-! ### boustrophedon/boustrophedonlaw24.RelevelEnds -/
noncomputable def law24_RelevelEnds_L6 (ls0 : List Int) (blanks1 : Int) (base2 : Int) (levels7 : List Int) (cs8 : List Int) (t21 : Int) (t22 : Int) : Tr (Lap (List Int × Int × Int × List Int × List Int × Int × Int) (List Int × Int × Int × List Int × List Int)) :=
  .br (decide (t22 < t21)) (
    .bnd (app 140737488355328 cs8 ([1])) fun r_3 =>
    .pure (.next (ls0, blanks1, base2, levels7, r_3, t21, IntKind.i64.wrap (t22 + 1)))) (
    .pure (.done (ls0, blanks1, base2, levels7, cs8)))
noncomputable def law24_RelevelEnds_L10 (ls0 : List Int) (blanks1 : Int) (base2 : Int) (levels7 : List Int) (cs8 : List Int) (k9 : Int) : Tr (Lap (List Int × Int × Int × List Int × List Int × Int) (List Int × Int × List Int × List Int)) :=
  .br (decide (k9 < (IntKind.i64.wrap (blanks1.tmod 6)))) (
    .bnd (app 17592186044416 levels7 ([3])) fun r_5 =>
    .bnd (app 140737488355328 cs8 ([12])) fun r_6 =>
    .pure (.next (ls0, blanks1, base2, r_5, r_6, IntKind.i64.wrap (k9 + 1)))) (
    .pure (.done (ls0, base2, levels7, cs8)))
noncomputable def law24_RelevelEnds_L16 (ls0 : List Int) (base2 : Int) (levels7 : List Int) (cs8 : List Int) (bases10 : List Int) (t45 : Int) (t46 : Int) : Tr (Lap (List Int × Int × List Int × List Int × List Int × Int × Int) (List Int × Int × List Int × List Int × List Int)) :=
  .br (decide (t46 < t45)) (
    .bnd (idx bases10 t46) fun x_9 =>
    .pure (.next (ls0, base2, levels7, cs8, bases10.set (Int.toNat t46) (IntKind.i64.wrap (base2.tmod 2)), t45, IntKind.i64.wrap (t46 + 1)))) (
    .pure (.done (ls0, base2, levels7, cs8, bases10)))
noncomputable def law24_RelevelEnds_L24 (ls0 : List Int) (base2 : Int) (levels7 : List Int) (cs8 : List Int) (bases10 : List Int) (out12 : List Int) (t66 : Int) (t67 : Int) : Tr (Lap (List Int × Int × List Int × List Int × List Int × List Int × Int × Int) (Sum (Int × List Int × List Int × List Int) Bool)) :=
  .br (decide (t67 < t66)) (
    .br (decide (t67 < (ls0.length : Int))) (
      .bnd (idx out12 t67) fun x_12 =>
      .bnd (idx levels7 t67) fun x_13 =>
      .br (x_12 != x_13) (
        .pure (.done (.inr false))) (
        .br (decide (t67 ≥ (ls0.length : Int))) (
          .bnd (idx out12 t67) fun x_14 =>
          .br (x_14 != (IntKind.i64.wrap (base2.tmod 2))) (
            .pure (.done (.inr false))) (
            .pure (.next (ls0, base2, levels7, cs8, bases10, out12, t66, IntKind.i64.wrap (t67 + 1))))) (
          .pure (.next (ls0, base2, levels7, cs8, bases10, out12, t66, IntKind.i64.wrap (t67 + 1)))))) (
      .br (decide (t67 ≥ (ls0.length : Int))) (
        .bnd (idx out12 t67) fun x_15 =>
        .br (x_15 != (IntKind.i64.wrap (base2.tmod 2))) (
          .pure (.done (.inr false))) (
          .pure (.next (ls0, base2, levels7, cs8, bases10, out12, t66, IntKind.i64.wrap (t67 + 1))))) (
        .pure (.next (ls0, base2, levels7, cs8, bases10, out12, t66, IntKind.i64.wrap (t67 + 1)))))) (
    .pure (.done (.inl (base2, levels7, cs8, bases10))))
noncomputable def law24_RelevelEnds_L36 (levels7 : List Int) (kept14 : List Int) (t124 : Int) (t125 : Int) : Tr (Lap (List Int × List Int × Int × Int) (Sum Unit Bool)) :=
  .br (decide (t125 < t124)) (
    .bnd (idx kept14 t125) fun x_21 =>
    .bnd (idx levels7 t125) fun x_22 =>
    .br (x_21 != x_22) (
      .pure (.done (.inr false))) (
      .pure (.next (levels7, kept14, t124, IntKind.i64.wrap (t125 + 1))))) (
    .pure (.done (.inl ())))
noncomputable def law24_RelevelEnds_T (ls0 : List Int) (blanks1 : Int) (base2 : Int) : Tr Bool :=
  .bnd law24_awake_F fun c_1 =>
  .br (!c_1) (
    .pure false) (
    .bnd (law12_Levels_F ls0) fun c_2 =>
    .bnd (loopW (fun s => (law24_RelevelEnds_L6 s.1 s.2.1 s.2.2.1 s.2.2.2.1 s.2.2.2.2.1 s.2.2.2.2.2.1 s.2.2.2.2.2.2).run) (ls0, blanks1, base2, c_2, [], (c_2.length : Int), 0)) fun l_4 =>
    .bnd (loopW (fun s => (law24_RelevelEnds_L10 s.1 s.2.1 s.2.2.1 s.2.2.2.1 s.2.2.2.2.1 s.2.2.2.2.2).run) (l_4.1, l_4.2.1, l_4.2.2.1, l_4.2.2.2.1, l_4.2.2.2.2, 0)) fun l_7 =>
    .bnd (mk 17592186044416 0 (l_7.2.2.1.length : Int)) fun r_8 =>
    .bnd (loopW (fun s => (law24_RelevelEnds_L16 s.1 s.2.1 s.2.2.1 s.2.2.2.1 s.2.2.2.2.1 s.2.2.2.2.2.1 s.2.2.2.2.2.2).run) (l_7.1, l_7.2.1, l_7.2.2.1, l_7.2.2.2, r_8, (r_8.length : Int), 0)) fun l_10 =>
    .bnd (relevel_Of_F l_10.2.2.1 l_10.2.2.2.1 l_10.2.2.2.2) fun c_11 =>
    .br ((c_11.length : Int) != (l_10.2.2.1.length : Int)) (
      .pure false) (
      .alt (loopW (fun s => (law24_RelevelEnds_L24 s.1 s.2.1 s.2.2.1 s.2.2.2.1 s.2.2.2.2.1 s.2.2.2.2.2.1 s.2.2.2.2.2.2.1 s.2.2.2.2.2.2.2).run) (l_10.1, l_10.2.1, l_10.2.2.1, l_10.2.2.2.1, l_10.2.2.2.2, c_11, (c_11.length : Int), 0)) (fun l_16 =>
        .bnd (app 17592186044416 l_16.2.1 ([1])) fun r_17 =>
        .bnd (app 140737488355328 l_16.2.2.1 ([1])) fun r_18 =>
        .bnd (app 17592186044416 l_16.2.2.2 ([IntKind.i64.wrap (l_16.1.tmod 2)])) fun r_19 =>
        .bnd (relevel_Of_F r_17 r_18 r_19) fun c_20 =>
        .br ((c_20.length : Int) != (r_17.length : Int)) (
          .pure false) (
          .alt (loopW (fun s => (law24_RelevelEnds_L36 s.1 s.2.1 s.2.2.1 s.2.2.2).run) (r_17, c_20, (c_20.length : Int), 0)) (fun l_23 =>
            .pure true) (fun l_24 =>
            .pure l_24))) (fun l_25 =>
        .pure l_25)))
noncomputable def law24_RelevelEnds_F (ls0 : List Int) (blanks1 : Int) (base2 : Int) : Option Bool := (law24_RelevelEnds_T ls0 blanks1 base2).run
def law24_RelevelEnds_L : List (Nat × LoopAnn) := [(6, { head := [.sv 0 false (.sl (.int .u8)), .sv 1 false (.int .u8), .sv 2 false (.int .u8), .srow 7 1000007 3 true (.int .i64), .srow 8 1000008 29 true (.int .u8), .sv 21 true (.int .i64), .sv 22 true (.int .i64)], xid := 0, out := [.sv 0 false (.sl (.int .u8)), .sv 1 false (.int .u8), .sv 2 false (.int .u8), .srow 7 1000007 3 true (.int .i64), .srow 8 1000008 29 true (.int .u8)], hasRet := false, res := [] }), (10, { head := [.sv 0 false (.sl (.int .u8)), .sv 1 false (.int .u8), .sv 2 false (.int .u8), .srow 7 1000007 3 true (.int .i64), .srow 8 1000008 29 true (.int .u8), .sv 9 true (.int .i64)], xid := 2, out := [.sv 0 false (.sl (.int .u8)), .sv 2 false (.int .u8), .srow 7 1000007 3 true (.int .i64), .srow 8 1000008 29 true (.int .u8)], hasRet := false, res := [] }), (16, { head := [.sv 0 false (.sl (.int .u8)), .sv 2 false (.int .u8), .srow 7 1000007 3 true (.int .i64), .srow 8 1000008 29 true (.int .u8), .srow 10 1000010 3 true (.int .i64), .sv 45 true (.int .i64), .sv 46 true (.int .i64)], xid := 4, out := [.sv 0 false (.sl (.int .u8)), .sv 2 false (.int .u8), .srow 7 1000007 3 true (.int .i64), .srow 8 1000008 29 true (.int .u8), .srow 10 1000010 3 true (.int .i64)], hasRet := false, res := [] }), (24, { head := [.sv 0 false (.sl (.int .u8)), .sv 2 false (.int .u8), .srow 7 1000007 3 true (.int .i64), .srow 8 1000008 29 true (.int .u8), .srow 10 1000010 3 true (.int .i64), .srow 12 1000012 3 true (.int .i64), .sv 66 true (.int .i64), .sv 67 true (.int .i64)], xid := 6, out := [.sv 2 false (.int .u8), .srow 7 1000007 3 true (.int .i64), .srow 8 1000008 29 true (.int .u8), .srow 10 1000010 3 true (.int .i64)], hasRet := true, res := [.sv 6 true .bool] }), (36, { head := [.srow 7 1000007 3 true (.int .i64), .srow 14 1000014 3 true (.int .i64), .sv 124 true (.int .i64), .sv 125 true (.int .i64)], xid := 8, out := [], hasRet := true, res := [.sv 6 true .bool] })]
noncomputable def law24_RelevelEnds_C : List (Nat × Fun) := [(15, law24_awake_fun), (16, law12_Levels_fun), (18, relevel_Of_fun)]
noncomputable def law24_RelevelEnds_fun : Fun := ⟨[.sl (.int .u8), .int .u8, .int .u8], [.v .bool], fun x => law24_RelevelEnds_F x.1 x.2.1 x.2.2.1⟩
theorem law24_RelevelEnds_ev (x : Tys.I [.sl (.int .u8), .int .u8, .int .u8]) : evFun G0 (fun f => olook f law24_RelevelEnds_C) ⟨[], []⟩ (fun i => olook i law24_RelevelEnds_L) Try.f9 [.sl (.int .u8), .int .u8, .int .u8] [.v .bool] x = law24_RelevelEnds_T x.1 x.2.1 x.2.2.1 := by kernel_rfl
theorem law24_RelevelEnds_ok : FunOk Try.prog 9 law24_RelevelEnds_fun := evFun_ok mixed ctx0 (cons_calls law24_awake_ok (cons_calls law12_Levels_ok (cons_calls relevel_Of_ok (no_calls)))) Try.func9 (by kernel_rfl) _ (fun x => congrArg Tr.run (law24_RelevelEnds_ev x)) (by kernel_rfl) (by kernel_rfl)
end Go.Proofs.Ytfojigpbnepdhaa
