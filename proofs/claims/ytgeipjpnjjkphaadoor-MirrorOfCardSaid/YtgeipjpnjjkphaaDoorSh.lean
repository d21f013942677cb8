/-
  The plain readings of the functions of this seat, by program; each is tied to the loaded function.
-/
import Derived.Test.YtgeipjpnjjkphaaDoorEvErr
import Derived.Test.YtgeipjpnjjkphaaDoorChecked
namespace Go.Proofs.YtgeipjpnjjkphaaDoor
set_option maxRecDepth 100000
set_option linter.unusedVariables false

def G0 : Ctx := { ty := [(3, .int .i64), (4, .bool), (5, .int .u8), (21, .int .i32), (23, .sl (.st (.pair (.int .i32) (.int .i32)))), (25, .sl (.arr 2 (.int .i64))), (28, .st (.pair (.int .i32) (.int .i32))), (29, .arr 2 (.int .i64)), (34, .int .i64), (40, .sl (.int .i32)), (42, .arr 35 (.st (.pair (.int .i32) (.int .i32)))), (45, .sl (.int .i64))], sls := [(23, ⟨28, .st (.pair (.int .i32) (.int .i32)), 17592186044416⟩), (25, ⟨29, .arr 2 (.int .i64), 8796093022208⟩), (40, ⟨21, .int .i32, 35184372088832⟩), (45, ⟨3, .int .i64, 17592186044416⟩)], eqs := [], enos := [] }
theorem mixed : Tryd.prog.follows .mixedOrders = true := by kernel_rfl
theorem ctx0 : CtxOk Tryd.prog G0 := ctx_ok (by kernel_rfl)
theorem no_calls {Λ : List Nat} : ∀ f fa, olook f ([] : List (Nat × Callee)) = some fa → CalleeOk Tryd.prog f fa ∧ (fa.isPlain = false → inList f Λ = true) := fun _ _ h => by cases h
theorem cons_calls {Λ : List Nat} {k : Nat} {fb : Callee} {l : List (Nat × Callee)} (h : CalleeOk Tryd.prog k fb) (hi : fb.isPlain = false → inList k Λ = true) (hl : ∀ f fa, olook f l = some fa → CalleeOk Tryd.prog f fa ∧ (fa.isPlain = false → inList f Λ = true)) : ∀ f fa, olook f ((k, fb) :: l) = some fa → CalleeOk Tryd.prog f fa ∧ (fa.isPlain = false → inList f Λ = true) := by
  intro f fa hf
  rw [olook_cons] at hf
  split at hf
  · rename_i e; subst e; cases hf; exact ⟨h, hi⟩
  · exact hl f fa hf

def gtab : List (Int × Int) := [(40, 41), (60, 62), (91, 93), (123, 125), (171, 187), (8249, 8250), (8261, 8262), (8317, 8318), (8333, 8334), (8712, 8715), (8713, 8716), (8804, 8805), (8806, 8807), (8810, 8811), (8834, 8835), (8838, 8839), (8968, 8969), (8970, 8971), (9001, 9002), (10214, 10215), (10216, 10217), (10218, 10219), (10627, 10628), (12296, 12297), (12298, 12299), (12300, 12301), (12302, 12303), (12304, 12305), (12308, 12309), (12310, 12311), (65288, 65289), (65308, 65310), (65339, 65341), (65371, 65373), (65378, 65379)]

/-! ### boustrophedon/mirror.Of -/
noncomputable def mirror_Of_L2 (r0 : Int) (t6 : List (Int × Int)) (t7 : Int) : Tr (Lap (Int × (List (Int × Int)) × Int) (Sum Int (Int × Bool))) :=
  .br (decide (t7 < 35)) (
    .bnd (idx t6 t7) fun x_1 =>
    .bnd (idx ([x_1]) 0) fun x_2 =>
    .br (x_2.1 == r0) (
      .bnd (idx ([x_1]) 0) fun x_3 =>
      .pure (.done (.inr (x_3.2, true)))) (
      .bnd (idx ([x_1]) 0) fun x_4 =>
      .br (x_4.2 == r0) (
        .bnd (idx ([x_1]) 0) fun x_5 =>
        .pure (.done (.inr (x_5.1, true)))) (
        .pure (.next (r0, t6, IntKind.i64.wrap (t7 + 1)))))) (
    .pure (.done (.inl r0)))
noncomputable def mirror_Of_T (r0 : Int) : Tr (Int × Bool) :=
  .alt (loopW (fun s => (mirror_Of_L2 s.1 s.2.1 s.2.2).run) (r0, gtab, 0)) (fun l_6 =>
    .pure (l_6, false)) (fun l_7 =>
    .pure (l_7.1, l_7.2))
noncomputable def mirror_Of_F (r0 : Int) : Option (Int × Bool) := (mirror_Of_T r0).run
def mirror_Of_L : List (Nat × LoopAnn) := [(2, { head := [.sv 0 false (.int .i32), .sv 6 true (.arr 35 (.st (.pair (.int .i32) (.int .i32)))), .sv 7 true (.int .i64)], xid := 0, out := [.sv 0 false (.int .i32)], hasRet := true, res := [.sv 2 true (.int .i32), .sv 3 true .bool] })]
noncomputable def mirror_Of_C : List (Nat × Callee) := []
noncomputable def mirror_Of_fun : Fun := ⟨[.int .i32], [.v (.int .i32), .v .bool], fun x => mirror_Of_F x.1⟩
theorem mirror_Of_ev (x : Tys.I [.int .i32]) : evFun G0 (fun f => olook f mirror_Of_C) ⟨[], [], [], [], []⟩ (fun i => olook i mirror_Of_L) Tryd.f10 [.int .i32] [.v (.int .i32), .v .bool] x = mirror_Of_T x.1 := by kernel_rfl
theorem mirror_Of_ok : FunOk Tryd.prog 10 mirror_Of_fun := evFun_ok mixed ctx0 (no_calls) Tryd.func10 (by kernel_rfl) _ (fun x => congrArg Tr.run (mirror_Of_ev x)) (by kernel_rfl) (by kernel_rfl)
/-! ### boustrophedon/mirror.bracket -/
noncomputable def mirror_bracket_T (p0 : Int × Int) : Tr Bool :=
  .br (p0.1 == 60) (
    .pure false) (
    .br (p0.1 == 171) (
      .pure false) (
      .br (p0.1 == 8249) (
        .pure false) (
        .br (p0.1 == 8712) (
          .pure false) (
          .br (p0.1 == 8713) (
            .pure false) (
            .br (p0.1 == 8804) (
              .pure false) (
              .br (p0.1 == 8806) (
                .pure false) (
                .br (p0.1 == 8810) (
                  .pure false) (
                  .br (p0.1 == 8834) (
                    .pure false) (
                    .br (p0.1 == 8838) (
                      .pure false) (
                      .br (p0.1 == 65308) (
                        .pure false) (
                        .pure true)))))))))))
noncomputable def mirror_bracket_F (p0 : Int × Int) : Option Bool := (mirror_bracket_T p0).run
def mirror_bracket_L : List (Nat × LoopAnn) := []
noncomputable def mirror_bracket_C : List (Nat × Callee) := []
noncomputable def mirror_bracket_fun : Fun := ⟨[.st (.pair (.int .i32) (.int .i32))], [.v .bool], fun x => mirror_bracket_F x.1⟩
theorem mirror_bracket_ev (x : Tys.I [.st (.pair (.int .i32) (.int .i32))]) : evFun G0 (fun f => olook f mirror_bracket_C) ⟨[], [], [], [], []⟩ (fun i => olook i mirror_bracket_L) Tryd.f14 [.st (.pair (.int .i32) (.int .i32))] [.v .bool] x = mirror_bracket_T x.1 := by kernel_rfl
theorem mirror_bracket_ok : FunOk Tryd.prog 14 mirror_bracket_fun := evFun_ok mixed ctx0 (no_calls) Tryd.func14 (by kernel_rfl) _ (fun x => congrArg Tr.run (mirror_bracket_ev x)) (by kernel_rfl) (by kernel_rfl)
/-! ### boustrophedon/mirror.known -/
noncomputable def mirror_known_T (left0 : Int) : Tr Int :=
  .br (left0 == 9001) (
    .pure 12296) (
    .pure left0)
noncomputable def mirror_known_F (left0 : Int) : Option Int := (mirror_known_T left0).run
def mirror_known_L : List (Nat × LoopAnn) := []
noncomputable def mirror_known_C : List (Nat × Callee) := []
noncomputable def mirror_known_fun : Fun := ⟨[.int .i32], [.v (.int .i32)], fun x => mirror_known_F x.1⟩
theorem mirror_known_ev (x : Tys.I [.int .i32]) : evFun G0 (fun f => olook f mirror_known_C) ⟨[], [], [], [], []⟩ (fun i => olook i mirror_known_L) Tryd.f15 [.int .i32] [.v (.int .i32)] x = mirror_known_T x.1 := by kernel_rfl
theorem mirror_known_ok : FunOk Tryd.prog 15 mirror_known_fun := evFun_ok mixed ctx0 (no_calls) Tryd.func15 (by kernel_rfl) _ (fun x => congrArg Tr.run (mirror_known_ev x)) (by kernel_rfl) (by kernel_rfl)
/-! ### boustrophedon/mirror.Bracket -/
noncomputable def mirror_Bracket_L2 (r0 : Int) (t6 : List (Int × Int)) (t7 : Int) : Tr (Lap (Int × (List (Int × Int)) × Int) (Sum Unit (Int × Int))) :=
  .br (decide (t7 < 35)) (
    .bnd (idx t6 t7) fun x_1 =>
    .bnd (idx ([x_1]) 0) fun x_2 =>
    .br (x_2.1 != r0) (
      .bnd (idx ([x_1]) 0) fun x_3 =>
      .br (x_3.2 != r0) (
        .pure (.next (r0, t6, IntKind.i64.wrap (t7 + 1)))) (
        .bnd (idx ([x_1]) 0) fun x_4 =>
        .bnd (mirror_bracket_F x_4) fun c_5 =>
        .br (!c_5) (
          .pure (.next (r0, t6, IntKind.i64.wrap (t7 + 1)))) (
          .bnd (idx ([x_1]) 0) fun x_6 =>
          .br (x_6.1 == r0) (
            .bnd (idx ([x_1]) 0) fun x_7 =>
            .bnd (mirror_known_F x_7.1) fun c_8 =>
            .pure (.done (.inr (1, c_8)))) (
            .bnd (idx ([x_1]) 0) fun x_9 =>
            .bnd (mirror_known_F x_9.1) fun c_10 =>
            .pure (.done (.inr (2, c_10))))))) (
      .bnd (idx ([x_1]) 0) fun x_11 =>
      .bnd (mirror_bracket_F x_11) fun c_12 =>
      .br (!c_12) (
        .pure (.next (r0, t6, IntKind.i64.wrap (t7 + 1)))) (
        .bnd (idx ([x_1]) 0) fun x_13 =>
        .br (x_13.1 == r0) (
          .bnd (idx ([x_1]) 0) fun x_14 =>
          .bnd (mirror_known_F x_14.1) fun c_15 =>
          .pure (.done (.inr (1, c_15)))) (
          .bnd (idx ([x_1]) 0) fun x_16 =>
          .bnd (mirror_known_F x_16.1) fun c_17 =>
          .pure (.done (.inr (2, c_17))))))) (
    .pure (.done (.inl ())))
noncomputable def mirror_Bracket_T (r0 : Int) : Tr (Int × Int) :=
  .alt (loopW (fun s => (mirror_Bracket_L2 s.1 s.2.1 s.2.2).run) (r0, gtab, 0)) (fun l_18 =>
    .pure (0, 0)) (fun l_19 =>
    .pure (l_19.1, l_19.2))
noncomputable def mirror_Bracket_F (r0 : Int) : Option (Int × Int) := (mirror_Bracket_T r0).run
def mirror_Bracket_L : List (Nat × LoopAnn) := [(2, { head := [.sv 0 false (.int .i32), .sv 6 true (.arr 35 (.st (.pair (.int .i32) (.int .i32)))), .sv 7 true (.int .i64)], xid := 0, out := [], hasRet := true, res := [.sv 2 true (.int .i64), .sv 3 true (.int .i32)] })]
noncomputable def mirror_Bracket_C : List (Nat × Callee) := [(14, .plain mirror_bracket_fun), (15, .plain mirror_known_fun)]
noncomputable def mirror_Bracket_fun : Fun := ⟨[.int .i32], [.v (.int .i64), .v (.int .i32)], fun x => mirror_Bracket_F x.1⟩
theorem mirror_Bracket_ev (x : Tys.I [.int .i32]) : evFun G0 (fun f => olook f mirror_Bracket_C) ⟨[], [], [], [], []⟩ (fun i => olook i mirror_Bracket_L) Tryd.f12 [.int .i32] [.v (.int .i64), .v (.int .i32)] x = mirror_Bracket_T x.1 := by kernel_rfl
theorem mirror_Bracket_ok : FunOk Tryd.prog 12 mirror_Bracket_fun := evFun_ok mixed ctx0 (cons_calls (fb := .plain mirror_bracket_fun) mirror_bracket_ok (fun h => by cases h) (cons_calls (fb := .plain mirror_known_fun) mirror_known_ok (fun h => by cases h) (no_calls))) Tryd.func12 (by kernel_rfl) _ (fun x => congrArg Tr.run (mirror_Bracket_ev x)) (by kernel_rfl) (by kernel_rfl)
/-! ### boustrophedon/boustrophedonlaw05.awake -/
noncomputable def law05_awake_T : Tr Bool :=
  .bnd (mirror_Of_F 40) fun c_1 =>
  .bnd (mirror_Of_F 97) fun c_2 =>
  .bnd (mirror_Bracket_F 93) fun c_3 =>
  .bnd (mirror_Bracket_F 9002) fun c_4 =>
  .bnd (mirror_Bracket_F 60) fun c_5 =>
  .br (c_1.1 == 41) (
    .br c_1.2 (
      .br (c_2.1 == 97) (
        .br (!c_2.2) (
          .br (c_3.1 == 2) (
            .br (c_3.2 == 91) (
              .br (c_4.1 == 2) (
                .br (c_4.2 == 12296) (
                  .br (c_5.1 == 0) (
                    .pure (c_5.2 == 0)) (
                    .pure false)) (
                  .pure false)) (
                .pure false)) (
              .pure false)) (
            .pure false)) (
          .pure false)) (
        .pure false)) (
      .pure false)) (
    .pure false)
noncomputable def law05_awake_F : Option Bool := (law05_awake_T).run
def law05_awake_L : List (Nat × LoopAnn) := []
noncomputable def law05_awake_C : List (Nat × Callee) := [(10, .plain mirror_Of_fun), (12, .plain mirror_Bracket_fun)]
noncomputable def law05_awake_fun : Fun := ⟨[], [.v .bool], fun _ => law05_awake_F⟩
theorem law05_awake_ev (x : Tys.I []) : evFun G0 (fun f => olook f law05_awake_C) ⟨[], [], [], [], []⟩ (fun i => olook i law05_awake_L) Tryd.f7 [] [.v .bool] x = law05_awake_T := by kernel_rfl
theorem law05_awake_ok : FunOk Tryd.prog 7 law05_awake_fun := evFun_ok mixed ctx0 (cons_calls (fb := .plain mirror_Of_fun) mirror_Of_ok (fun h => by cases h) (cons_calls (fb := .plain mirror_Bracket_fun) mirror_Bracket_ok (fun h => by cases h) (no_calls))) Tryd.func7 (by kernel_rfl) _ (fun x => congrArg Tr.run (law05_awake_ev x)) (by kernel_rfl) (by kernel_rfl)
/-! ### boustrophedon/mirror.Pairs -/
noncomputable def mirror_Pairs_L3 (ps1 : List (Int × Int)) (t5 : List (Int × Int)) (t6 : Int) : Tr (Lap ((List (Int × Int)) × (List (Int × Int)) × Int) (List (Int × Int))) :=
  .br (decide (t6 < 35)) (
    .bnd (idx t5 t6) fun x_2 =>
    .bnd (idx ([x_2]) 0) fun x_3 =>
    .bnd (app 17592186044416 ps1 ([x_3])) fun r_4 =>
    .pure (.next (r_4, t5, IntKind.i64.wrap (t6 + 1)))) (
    .pure (.done ps1))
noncomputable def mirror_Pairs_T : Tr (List (Int × Int)) :=
  .br (decide (0 ≤ 35) && decide (35 ≤ 17592186044416)) (
    .bnd (mk 17592186044416 (0, 0) 0) fun r_1 =>
    .bnd (loopW (fun s => (mirror_Pairs_L3 s.1 s.2.1 s.2.2).run) (r_1, gtab, 0)) fun l_5 =>
    .pure l_5) (
    .fail)
noncomputable def mirror_Pairs_F : Option (List (Int × Int)) := (mirror_Pairs_T).run
def mirror_Pairs_L : List (Nat × LoopAnn) := [(3, { head := [.srow 1 1000001 28 true (.st (.pair (.int .i32) (.int .i32))), .sv 5 true (.arr 35 (.st (.pair (.int .i32) (.int .i32)))), .sv 6 true (.int .i64)], xid := 0, out := [.srow 1 1000001 28 true (.st (.pair (.int .i32) (.int .i32)))], hasRet := false, res := [] })]
noncomputable def mirror_Pairs_C : List (Nat × Callee) := []
noncomputable def mirror_Pairs_fun : Fun := ⟨[], [.row 28 (.st (.pair (.int .i32) (.int .i32)))], fun _ => mirror_Pairs_F⟩
theorem mirror_Pairs_ev (x : Tys.I []) : evFun G0 (fun f => olook f mirror_Pairs_C) ⟨[], [], [], [], []⟩ (fun i => olook i mirror_Pairs_L) Tryd.f8 [] [.row 28 (.st (.pair (.int .i32) (.int .i32)))] x = mirror_Pairs_T := by kernel_rfl
theorem mirror_Pairs_ok : FunOk Tryd.prog 8 mirror_Pairs_fun := evFun_ok mixed ctx0 (no_calls) Tryd.func8 (by kernel_rfl) _ (fun x => congrArg Tr.run (mirror_Pairs_ev x)) (by kernel_rfl) (by kernel_rfl)
/-! ### boustrophedon/boustrophedonref04.Mirrors -/
noncomputable def ref04_Mirrors_T : Tr (List (List Int)) :=
  .pure ([[40, 41], [60, 62], [91, 93], [123, 125], [171, 187], [8249, 8250], [8261, 8262], [8317, 8318], [8333, 8334], [8712, 8715], [8713, 8716], [8804, 8805], [8806, 8807], [8810, 8811], [8834, 8835], [8838, 8839], [8968, 8969], [8970, 8971], [9001, 9002], [10214, 10215], [10216, 10217], [10218, 10219], [10627, 10628], [12296, 12297], [12298, 12299], [12300, 12301], [12302, 12303], [12304, 12305], [12308, 12309], [12310, 12311], [65288, 65289], [65308, 65310], [65339, 65341], [65371, 65373], [65378, 65379]])
noncomputable def ref04_Mirrors_F : Option (List (List Int)) := (ref04_Mirrors_T).run
def ref04_Mirrors_L : List (Nat × LoopAnn) := []
noncomputable def ref04_Mirrors_C : List (Nat × Callee) := []
noncomputable def ref04_Mirrors_fun : Fun := ⟨[], [.row 29 (.arr 2 (.int .i64))], fun _ => ref04_Mirrors_F⟩
theorem ref04_Mirrors_ev (x : Tys.I []) : evFun G0 (fun f => olook f ref04_Mirrors_C) ⟨[], [], [], [], []⟩ (fun i => olook i ref04_Mirrors_L) Tryd.f9 [] [.row 29 (.arr 2 (.int .i64))] x = ref04_Mirrors_T := by kernel_rfl
theorem ref04_Mirrors_ok : FunOk Tryd.prog 9 ref04_Mirrors_fun := evFun_ok mixed ctx0 (no_calls) Tryd.func9 (by kernel_rfl) _ (fun x => congrArg Tr.run (ref04_Mirrors_ev x)) (by kernel_rfl) (by kernel_rfl)
/-! ### boustrophedon/boustrophedonlaw05.MirrorPairs -/
noncomputable def law05_MirrorPairs_T (k0 : Int) : Tr Bool :=
  .bnd law05_awake_F fun c_1 =>
  .br (!c_1) (
    .pure false) (
    .bnd mirror_Pairs_F fun c_2 =>
    .bnd ref04_Mirrors_F fun c_3 =>
    .br ((c_2.length : Int) != (c_3.length : Int)) (
      .pure false) (
      .br ((c_2.length : Int) != 0) (
        .bnd (idx c_2 ((IntKind.i64.wrap k0).tmod (c_2.length : Int))) fun x_4 =>
        .bnd (idx c_3 ((IntKind.i64.wrap k0).tmod (c_2.length : Int))) fun x_5 =>
        .bnd (idx x_5 0) fun x_6 =>
        .br ((IntKind.i64.wrap x_4.1) == x_6) (
          .bnd (idx c_2 ((IntKind.i64.wrap k0).tmod (c_2.length : Int))) fun x_7 =>
          .bnd (idx c_3 ((IntKind.i64.wrap k0).tmod (c_2.length : Int))) fun x_8 =>
          .bnd (idx x_8 1) fun x_9 =>
          .pure ((IntKind.i64.wrap x_7.2) == x_9)) (
          .pure false)) (
        .fail)))
noncomputable def law05_MirrorPairs_F (k0 : Int) : Option Bool := (law05_MirrorPairs_T k0).run
def law05_MirrorPairs_L : List (Nat × LoopAnn) := []
noncomputable def law05_MirrorPairs_C : List (Nat × Callee) := [(7, .plain law05_awake_fun), (8, .plain mirror_Pairs_fun), (9, .plain ref04_Mirrors_fun)]
noncomputable def law05_MirrorPairs_fun : Fun := ⟨[.int .u8], [.v .bool], fun x => law05_MirrorPairs_F x.1⟩
theorem law05_MirrorPairs_ev (x : Tys.I [.int .u8]) : evFun G0 (fun f => olook f law05_MirrorPairs_C) ⟨[], [], [], [], []⟩ (fun i => olook i law05_MirrorPairs_L) Tryd.f3 [.int .u8] [.v .bool] x = law05_MirrorPairs_T x.1 := by kernel_rfl
theorem law05_MirrorPairs_ok : FunOk Tryd.prog 3 law05_MirrorPairs_fun := evFun_ok mixed ctx0 (cons_calls (fb := .plain law05_awake_fun) law05_awake_ok (fun h => by cases h) (cons_calls (fb := .plain mirror_Pairs_fun) mirror_Pairs_ok (fun h => by cases h) (cons_calls (fb := .plain ref04_Mirrors_fun) ref04_Mirrors_ok (fun h => by cases h) (no_calls)))) Tryd.func3 (by kernel_rfl) _ (fun x => congrArg Tr.run (law05_MirrorPairs_ev x)) (by kernel_rfl) (by kernel_rfl)
/-! ### boustrophedon/boustrophedonref04.Mirror -/
noncomputable def ref04_Mirror_L3 (r0 : Int) (t3 : List (List Int)) (k4 : Int) : Tr (Lap (Int × List (List Int) × Int) (Sum Unit Int)) :=
  .br (decide (k4 < (t3.length : Int))) (
    .bnd (idx t3 k4) fun x_2 =>
    .bnd (idx x_2 0) fun x_3 =>
    .br (x_3 == r0) (
      .bnd (idx t3 k4) fun x_4 =>
      .bnd (idx x_4 1) fun x_5 =>
      .pure (.done (.inr x_5))) (
      .bnd (idx t3 k4) fun x_6 =>
      .bnd (idx x_6 1) fun x_7 =>
      .br (x_7 == r0) (
        .bnd (idx t3 k4) fun x_8 =>
        .bnd (idx x_8 0) fun x_9 =>
        .pure (.done (.inr x_9))) (
        .pure (.next (r0, t3, IntKind.i64.wrap (k4 + 1)))))) (
    .pure (.done (.inl ())))
noncomputable def ref04_Mirror_T (r0 : Int) : Tr Int :=
  .bnd ref04_Mirrors_F fun c_1 =>
  .alt (loopW (fun s => (ref04_Mirror_L3 s.1 s.2.1 s.2.2).run) (r0, c_1, 0)) (fun l_10 =>
    .pure (-1)) (fun l_11 =>
    .pure l_11)
noncomputable def ref04_Mirror_F (r0 : Int) : Option Int := (ref04_Mirror_T r0).run
def ref04_Mirror_L : List (Nat × LoopAnn) := [(3, { head := [.sv 0 false (.int .i64), .srow 3 1000003 29 true (.arr 2 (.int .i64)), .sv 4 true (.int .i64)], xid := 0, out := [], hasRet := true, res := [.sv 2 true (.int .i64)] })]
noncomputable def ref04_Mirror_C : List (Nat × Callee) := [(9, .plain ref04_Mirrors_fun)]
noncomputable def ref04_Mirror_fun : Fun := ⟨[.int .i64], [.v (.int .i64)], fun x => ref04_Mirror_F x.1⟩
theorem ref04_Mirror_ev (x : Tys.I [.int .i64]) : evFun G0 (fun f => olook f ref04_Mirror_C) ⟨[], [], [], [], []⟩ (fun i => olook i ref04_Mirror_L) Tryd.f11 [.int .i64] [.v (.int .i64)] x = ref04_Mirror_T x.1 := by kernel_rfl
theorem ref04_Mirror_ok : FunOk Tryd.prog 11 ref04_Mirror_fun := evFun_ok mixed ctx0 (cons_calls (fb := .plain ref04_Mirrors_fun) ref04_Mirrors_ok (fun h => by cases h) (no_calls)) Tryd.func11 (by kernel_rfl) _ (fun x => congrArg Tr.run (ref04_Mirror_ev x)) (by kernel_rfl) (by kernel_rfl)
/-! ### boustrophedon/boustrophedonref04.Plain -/
noncomputable def ref04_Plain_T : Tr (List Int) :=
  .pure ([60, 171, 8249, 8712, 8713, 8804, 8806, 8810, 8834, 8838, 65308])
noncomputable def ref04_Plain_F : Option (List Int) := (ref04_Plain_T).run
def ref04_Plain_L : List (Nat × LoopAnn) := []
noncomputable def ref04_Plain_C : List (Nat × Callee) := []
noncomputable def ref04_Plain_fun : Fun := ⟨[], [.row 3 (.int .i64)], fun _ => ref04_Plain_F⟩
theorem ref04_Plain_ev (x : Tys.I []) : evFun G0 (fun f => olook f ref04_Plain_C) ⟨[], [], [], [], []⟩ (fun i => olook i ref04_Plain_L) Tryd.f16 [] [.row 3 (.int .i64)] x = ref04_Plain_T := by kernel_rfl
theorem ref04_Plain_ok : FunOk Tryd.prog 16 ref04_Plain_fun := evFun_ok mixed ctx0 (no_calls) Tryd.func16 (by kernel_rfl) _ (fun x => congrArg Tr.run (ref04_Plain_ev x)) (by kernel_rfl) (by kernel_rfl)
/-! ### boustrophedon/boustrophedonref04.Bracket -/
noncomputable def ref04_Bracket_L8 (r0 : Int) (t4 : List (List Int)) (k5 : Int) (p6 : List Int) (i7 : Int) : Tr (Lap (Int × List (List Int) × Int × List Int × Int) (Sum (Int × List (List Int) × Int) (Int × Int))) :=
  .br (decide (i7 < (p6.length : Int))) (
    .bnd (idx p6 i7) fun x_7 =>
    .bnd (idx t4 k5) fun x_8 =>
    .bnd (idx x_8 0) fun x_9 =>
    .br (x_7 == x_9) (
      .pure (.done (.inr (0, 0)))) (
      .pure (.next (r0, t4, k5, p6, IntKind.i64.wrap (i7 + 1))))) (
    .pure (.done (.inl (r0, t4, k5))))
noncomputable def ref04_Bracket_L3 (r0 : Int) (t4 : List (List Int)) (k5 : Int) : Tr (Lap (Int × List (List Int) × Int) (Sum Unit (Int × Int))) :=
  .br (decide (k5 < (t4.length : Int))) (
    .bnd (idx t4 k5) fun x_2 =>
    .bnd (idx x_2 0) fun x_3 =>
    .br (x_3 != r0) (
      .bnd (idx t4 k5) fun x_4 =>
      .bnd (idx x_4 1) fun x_5 =>
      .br (x_5 != r0) (
        .pure (.next (r0, t4, IntKind.i64.wrap (k5 + 1)))) (
        .bnd ref04_Plain_F fun c_6 =>
        .alt (loopW (fun s => (ref04_Bracket_L8 s.1 s.2.1 s.2.2.1 s.2.2.2.1 s.2.2.2.2).run) (r0, t4, k5, c_6, 0)) (fun l_10 =>
          .bnd (idx l_10.2.1 l_10.2.2) fun x_11 =>
          .bnd (idx x_11 0) fun x_12 =>
          .br (x_12 == 9001) (
            .bnd (idx l_10.2.1 l_10.2.2) fun x_13 =>
            .bnd (idx x_13 0) fun x_14 =>
            .br (x_14 == l_10.1) (
              .pure (.done (.inr (1, 12296)))) (
              .pure (.done (.inr (2, 12296))))) (
            .bnd (idx l_10.2.1 l_10.2.2) fun x_15 =>
            .bnd (idx x_15 0) fun x_16 =>
            .br (x_16 == l_10.1) (
              .pure (.done (.inr (1, x_12)))) (
              .pure (.done (.inr (2, x_12)))))) (fun l_17 =>
          .pure (.done (.inr (l_17.1, l_17.2)))))) (
      .bnd ref04_Plain_F fun c_18 =>
      .alt (loopW (fun s => (ref04_Bracket_L8 s.1 s.2.1 s.2.2.1 s.2.2.2.1 s.2.2.2.2).run) (r0, t4, k5, c_18, 0)) (fun l_19 =>
        .bnd (idx l_19.2.1 l_19.2.2) fun x_20 =>
        .bnd (idx x_20 0) fun x_21 =>
        .br (x_21 == 9001) (
          .bnd (idx l_19.2.1 l_19.2.2) fun x_22 =>
          .bnd (idx x_22 0) fun x_23 =>
          .br (x_23 == l_19.1) (
            .pure (.done (.inr (1, 12296)))) (
            .pure (.done (.inr (2, 12296))))) (
          .bnd (idx l_19.2.1 l_19.2.2) fun x_24 =>
          .bnd (idx x_24 0) fun x_25 =>
          .br (x_25 == l_19.1) (
            .pure (.done (.inr (1, x_21)))) (
            .pure (.done (.inr (2, x_21)))))) (fun l_26 =>
        .pure (.done (.inr (l_26.1, l_26.2)))))) (
    .pure (.done (.inl ())))
noncomputable def ref04_Bracket_T (r0 : Int) : Tr (Int × Int) :=
  .bnd ref04_Mirrors_F fun c_1 =>
  .alt (loopW (fun s => (ref04_Bracket_L3 s.1 s.2.1 s.2.2).run) (r0, c_1, 0)) (fun l_27 =>
    .pure (0, 0)) (fun l_28 =>
    .pure (l_28.1, l_28.2))
noncomputable def ref04_Bracket_F (r0 : Int) : Option (Int × Int) := (ref04_Bracket_T r0).run
def ref04_Bracket_L : List (Nat × LoopAnn) := [(8, { head := [.sv 0 false (.int .i64), .srow 4 1000004 29 true (.arr 2 (.int .i64)), .sv 5 true (.int .i64), .srow 6 1000006 3 true (.int .i64), .sv 7 true (.int .i64)], xid := 2, out := [.sv 0 false (.int .i64), .srow 4 1000004 29 true (.arr 2 (.int .i64)), .sv 5 true (.int .i64)], hasRet := true, res := [.sv 2 true (.int .i64), .sv 3 true (.int .i64)] }), (3, { head := [.sv 0 false (.int .i64), .srow 4 1000004 29 true (.arr 2 (.int .i64)), .sv 5 true (.int .i64)], xid := 0, out := [], hasRet := true, res := [.sv 2 true (.int .i64), .sv 3 true (.int .i64)] })]
noncomputable def ref04_Bracket_C : List (Nat × Callee) := [(9, .plain ref04_Mirrors_fun), (16, .plain ref04_Plain_fun)]
noncomputable def ref04_Bracket_fun : Fun := ⟨[.int .i64], [.v (.int .i64), .v (.int .i64)], fun x => ref04_Bracket_F x.1⟩
theorem ref04_Bracket_ev (x : Tys.I [.int .i64]) : evFun G0 (fun f => olook f ref04_Bracket_C) ⟨[], [], [], [], []⟩ (fun i => olook i ref04_Bracket_L) Tryd.f13 [.int .i64] [.v (.int .i64), .v (.int .i64)] x = ref04_Bracket_T x.1 := by kernel_rfl
theorem ref04_Bracket_ok : FunOk Tryd.prog 13 ref04_Bracket_fun := evFun_ok mixed ctx0 (cons_calls (fb := .plain ref04_Mirrors_fun) ref04_Mirrors_ok (fun h => by cases h) (cons_calls (fb := .plain ref04_Plain_fun) ref04_Plain_ok (fun h => by cases h) (no_calls))) Tryd.func13 (by kernel_rfl) _ (fun x => congrArg Tr.run (ref04_Bracket_ev x)) (by kernel_rfl) (by kernel_rfl)
/-! ### boustrophedon/boustrophedonlaw05.MirrorOf -/
noncomputable def law05_MirrorOf_T (r0 : Int) : Tr Bool :=
  .bnd law05_awake_F fun c_1 =>
  .br (!c_1) (
    .pure false) (
    .bnd (mirror_Of_F r0) fun c_2 =>
    .bnd (ref04_Mirror_F (IntKind.i64.wrap r0)) fun c_3 =>
    .bnd (mirror_Bracket_F r0) fun c_4 =>
    .bnd (ref04_Bracket_F (IntKind.i64.wrap r0)) fun c_5 =>
    .br (!(c_2.2 == (decide (c_3 ≥ 0)))) (
      .pure false) (
      .br c_2.2 (
        .br ((IntKind.i64.wrap c_2.1) != c_3) (
          .pure false) (
          .br (!c_2.2) (
            .br (c_2.1 != r0) (
              .pure false) (
              .br (c_4.1 == c_5.1) (
                .pure ((IntKind.i64.wrap c_4.2) == c_5.2)) (
                .pure false))) (
            .br (c_4.1 == c_5.1) (
              .pure ((IntKind.i64.wrap c_4.2) == c_5.2)) (
              .pure false)))) (
        .br (!c_2.2) (
          .br (c_2.1 != r0) (
            .pure false) (
            .br (c_4.1 == c_5.1) (
              .pure ((IntKind.i64.wrap c_4.2) == c_5.2)) (
              .pure false))) (
          .br (c_4.1 == c_5.1) (
            .pure ((IntKind.i64.wrap c_4.2) == c_5.2)) (
            .pure false)))))
noncomputable def law05_MirrorOf_F (r0 : Int) : Option Bool := (law05_MirrorOf_T r0).run
def law05_MirrorOf_L : List (Nat × LoopAnn) := []
noncomputable def law05_MirrorOf_C : List (Nat × Callee) := [(7, .plain law05_awake_fun), (10, .plain mirror_Of_fun), (11, .plain ref04_Mirror_fun), (12, .plain mirror_Bracket_fun), (13, .plain ref04_Bracket_fun)]
noncomputable def law05_MirrorOf_fun : Fun := ⟨[.int .i32], [.v .bool], fun x => law05_MirrorOf_F x.1⟩
theorem law05_MirrorOf_ev (x : Tys.I [.int .i32]) : evFun G0 (fun f => olook f law05_MirrorOf_C) ⟨[], [], [], [], []⟩ (fun i => olook i law05_MirrorOf_L) Tryd.f4 [.int .i32] [.v .bool] x = law05_MirrorOf_T x.1 := by kernel_rfl
theorem law05_MirrorOf_ok : FunOk Tryd.prog 4 law05_MirrorOf_fun := evFun_ok mixed ctx0 (cons_calls (fb := .plain law05_awake_fun) law05_awake_ok (fun h => by cases h) (cons_calls (fb := .plain mirror_Of_fun) mirror_Of_ok (fun h => by cases h) (cons_calls (fb := .plain ref04_Mirror_fun) ref04_Mirror_ok (fun h => by cases h) (cons_calls (fb := .plain mirror_Bracket_fun) mirror_Bracket_ok (fun h => by cases h) (cons_calls (fb := .plain ref04_Bracket_fun) ref04_Bracket_ok (fun h => by cases h) (no_calls)))))) Tryd.func4 (by kernel_rfl) _ (fun x => congrArg Tr.run (law05_MirrorOf_ev x)) (by kernel_rfl) (by kernel_rfl)
/-! ### boustrophedon/boustrophedonlaw05.MirrorTwice -/
noncomputable def law05_MirrorTwice_L8 (x6 : Int × Int) (t36 : List Int) (t37 : Int) (t38 : Int) : Tr (Lap ((Int × Int) × List Int × Int × Int) (Sum (Int × Int) Bool)) :=
  .br (decide (t38 < t37)) (
    .bnd (idx t36 t38) fun x_6 =>
    .bnd (mirror_Of_F x_6) fun c_7 =>
    .bnd (mirror_Of_F c_7.1) fun c_8 =>
    .br (!(c_7.2 == c_8.2)) (
      .pure (.done (.inr false))) (
      .br (c_8.1 != x_6) (
        .pure (.done (.inr false))) (
        .br (c_7.2 == (c_7.1 == x_6)) (
          .pure (.done (.inr false))) (
          .pure (.next (x6, t36, t37, IntKind.i64.wrap (t38 + 1))))))) (
    .pure (.done (.inl x6)))
noncomputable def law05_MirrorTwice_T (r0 : Int) (k1 : Int) : Tr Bool :=
  .bnd law05_awake_F fun c_1 =>
  .br (!c_1) (
    .pure false) (
    .bnd mirror_Pairs_F fun c_2 =>
    .br ((c_2.length : Int) == 0) (
      .pure false) (
      .br ((c_2.length : Int) != 0) (
        .bnd (idx c_2 ((IntKind.i64.wrap k1).tmod (c_2.length : Int))) fun x_3 =>
        .bnd (idx ([x_3]) 0) fun x_4 =>
        .bnd (idx ([x_3]) 0) fun x_5 =>
        .alt (loopW (fun s => (law05_MirrorTwice_L8 s.1 s.2.1 s.2.2.1 s.2.2.2).run) (x_3, [r0, x_4.1, x_5.2], (([r0, x_4.1, x_5.2] : List Int).length : Int), 0)) (fun l_9 =>
          .bnd (idx ([l_9]) 0) fun x_10 =>
          .bnd (mirror_Bracket_F x_10.1) fun c_11 =>
          .bnd (idx ([l_9]) 0) fun x_12 =>
          .bnd (mirror_Bracket_F x_12.2) fun c_13 =>
          .br (c_11.2 == c_13.2) (
            .br (c_11.1 == 1) (
              .br (c_13.1 == 2) (
                .pure true) (
                .br (c_11.1 == 0) (
                  .br (c_13.1 == 0) (
                    .pure (c_11.2 == 0)) (
                    .pure false)) (
                  .pure false))) (
              .br (c_11.1 == 0) (
                .br (c_13.1 == 0) (
                  .pure (c_11.2 == 0)) (
                  .pure false)) (
                .pure false))) (
            .pure false)) (fun l_14 =>
          .pure l_14)) (
        .fail)))
noncomputable def law05_MirrorTwice_F (r0 : Int) (k1 : Int) : Option Bool := (law05_MirrorTwice_T r0 k1).run
def law05_MirrorTwice_L : List (Nat × LoopAnn) := [(8, { head := [.sbox 6 1000006 28 true (.st (.pair (.int .i32) (.int .i32))), .srow 36 1000036 21 true (.int .i32), .sv 37 true (.int .i64), .sv 38 true (.int .i64)], xid := 0, out := [.sbox 6 1000006 28 true (.st (.pair (.int .i32) (.int .i32)))], hasRet := true, res := [.sv 4 true .bool] })]
noncomputable def law05_MirrorTwice_C : List (Nat × Callee) := [(7, .plain law05_awake_fun), (8, .plain mirror_Pairs_fun), (10, .plain mirror_Of_fun), (12, .plain mirror_Bracket_fun)]
noncomputable def law05_MirrorTwice_fun : Fun := ⟨[.int .i32, .int .u8], [.v .bool], fun x => law05_MirrorTwice_F x.1 x.2.1⟩
theorem law05_MirrorTwice_ev (x : Tys.I [.int .i32, .int .u8]) : evFun G0 (fun f => olook f law05_MirrorTwice_C) ⟨[], [], [], [], []⟩ (fun i => olook i law05_MirrorTwice_L) Tryd.f5 [.int .i32, .int .u8] [.v .bool] x = law05_MirrorTwice_T x.1 x.2.1 := by kernel_rfl
theorem law05_MirrorTwice_ok : FunOk Tryd.prog 5 law05_MirrorTwice_fun := evFun_ok mixed ctx0 (cons_calls (fb := .plain law05_awake_fun) law05_awake_ok (fun h => by cases h) (cons_calls (fb := .plain mirror_Pairs_fun) mirror_Pairs_ok (fun h => by cases h) (cons_calls (fb := .plain mirror_Of_fun) mirror_Of_ok (fun h => by cases h) (cons_calls (fb := .plain mirror_Bracket_fun) mirror_Bracket_ok (fun h => by cases h) (no_calls))))) Tryd.func5 (by kernel_rfl) _ (fun x => congrArg Tr.run (law05_MirrorTwice_ev x)) (by kernel_rfl) (by kernel_rfl)
/-! ### boustrophedon/boustrophedonlaw05.MirrorBrackets -/
noncomputable def law05_MirrorBrackets_T (r0 : Int) : Tr Bool :=
  .bnd law05_awake_F fun c_1 =>
  .br (!c_1) (
    .pure false) (
    .bnd (mirror_Bracket_F r0) fun c_2 =>
    .br (c_2.1 == 0) (
      .pure (c_2.2 == 0)) (
      .bnd (mirror_Of_F r0) fun c_3 =>
      .bnd (mirror_Bracket_F c_3.1) fun c_4 =>
      .br c_3.2 (
        .br (c_4.2 == c_2.2) (
          .br (c_2.1 != c_4.1) (
            .br (c_4.1 != 0) (
              .br (c_2.1 == 1) (
                .pure true) (
                .pure (c_2.1 == 2))) (
              .pure false)) (
            .pure false)) (
          .pure false)) (
        .pure false)))
noncomputable def law05_MirrorBrackets_F (r0 : Int) : Option Bool := (law05_MirrorBrackets_T r0).run
def law05_MirrorBrackets_L : List (Nat × LoopAnn) := []
noncomputable def law05_MirrorBrackets_C : List (Nat × Callee) := [(7, .plain law05_awake_fun), (12, .plain mirror_Bracket_fun), (10, .plain mirror_Of_fun)]
noncomputable def law05_MirrorBrackets_fun : Fun := ⟨[.int .i32], [.v .bool], fun x => law05_MirrorBrackets_F x.1⟩
theorem law05_MirrorBrackets_ev (x : Tys.I [.int .i32]) : evFun G0 (fun f => olook f law05_MirrorBrackets_C) ⟨[], [], [], [], []⟩ (fun i => olook i law05_MirrorBrackets_L) Tryd.f6 [.int .i32] [.v .bool] x = law05_MirrorBrackets_T x.1 := by kernel_rfl
theorem law05_MirrorBrackets_ok : FunOk Tryd.prog 6 law05_MirrorBrackets_fun := evFun_ok mixed ctx0 (cons_calls (fb := .plain law05_awake_fun) law05_awake_ok (fun h => by cases h) (cons_calls (fb := .plain mirror_Bracket_fun) mirror_Bracket_ok (fun h => by cases h) (cons_calls (fb := .plain mirror_Of_fun) mirror_Of_ok (fun h => by cases h) (no_calls)))) Tryd.func6 (by kernel_rfl) _ (fun x => congrArg Tr.run (law05_MirrorBrackets_ev x)) (by kernel_rfl) (by kernel_rfl)
end Go.Proofs.YtgeipjpnjjkphaaDoor
