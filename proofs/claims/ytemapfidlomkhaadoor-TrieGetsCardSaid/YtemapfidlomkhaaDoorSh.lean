/-
  The plain readings of the functions of this seat, by program: the second half.
-/
import Derived.Test.YtemapfidlomkhaaDoorTrD
namespace Go.Proofs.YtemapfidlomkhaaDoor
set_option maxRecDepth 100000
set_option linter.unusedVariables false

/-! ### (*boustrophedon/trie.Trie).Get -/
noncomputable def trie_Trie_Get_T (t0 : List Int × List Int) (r1 : Int) : Tr Int :=
  .br (decide (r1 < 0)) (
    .pure 0) (
    .br (decide ((IntKind.i64.wrap ((IntKind.i64.wrap r1).tdiv 128)) ≥ (t0.1.length : Int))) (
      .pure 0) (
      .bnd (idx t0.1 (IntKind.i64.wrap ((IntKind.i64.wrap r1).tdiv 128))) fun x_1 =>
      .bnd (idx t0.2 (IntKind.i64.wrap ((IntKind.i64.wrap (x_1 * 128)) + ((IntKind.i64.wrap r1).tmod 128)))) fun x_2 =>
      .pure x_2))
noncomputable def trie_Trie_Get_F (t0 : List Int × List Int) (r1 : Int) : Option Int := (trie_Trie_Get_T t0 r1).run
def trie_Trie_Get_L : List (Nat × LoopAnn) := []
noncomputable def trie_Trie_Get_C : List (Nat × Callee) := []
noncomputable def trie_Trie_Get_fun : Fun := ⟨[.ptr (.st (.pair (.sl (.int .i64)) (.sl (.int .u8)))), .int .i32], [.v (.int .u8)], fun x => trie_Trie_Get_F x.1 x.2.1⟩
theorem trie_Trie_Get_ev (x : Tys.I [.ptr (.st (.pair (.sl (.int .i64)) (.sl (.int .u8)))), .int .i32]) : evFun G0 (fun f => olook f trie_Trie_Get_C) ⟨[], [], [], [], [], []⟩ (fun i => olook i trie_Trie_Get_L) Tryd.f14 [.ptr (.st (.pair (.sl (.int .i64)) (.sl (.int .u8)))), .int .i32] [.v (.int .u8)] x = trie_Trie_Get_T x.1 x.2.1 := by kernel_rfl
theorem trie_Trie_Get_ok : FunOk Tryd.prog 14 trie_Trie_Get_fun := evFun_ok mixed ctx0 (no_calls) Tryd.func14 (by kernel_rfl) _ (fun x => congrArg Tr.run (trie_Trie_Get_ev x)) (by kernel_rfl) (by kernel_rfl)
/-! ### boustrophedon/boustrophedonlaw03.awake -/
noncomputable def law03_awake_T : Tr Bool :=
  .bnd (trie_Build_F ([((65 : Int), (90 : Int), (1 : Int))]) 0) fun c_1 =>
  .br c_1.2.isSome (
    .pure false) (
    .bnd (trie_Check_F ([((5 : Int), (4 : Int), 0)])) fun c_2 =>
    .bnd (trie_Check_F ([((1 : Int), (5 : Int), 0), ((5 : Int), (6 : Int), 0)])) fun c_3 =>
    .bnd (trie_Trie_Get_F c_1.1 66) fun c_4 =>
    .br (c_4 == 1) (
      .bnd (trie_Trie_Get_F c_1.1 91) fun c_5 =>
      .br (c_5 == 0) (
        .bnd (trie_Trie_Pages_F c_1.1) fun c_6 =>
        .br (c_6 == 2) (
          .bnd (law02_Told_F c_2 4 (ByteArray.mk #[114, 97, 110, 103, 101]) 0) fun c_7 =>
          .br c_7 (
            .bnd (law02_Told_F c_3 5 (ByteArray.mk #[114, 97, 110, 103, 101]) 1) fun c_8 =>
            .pure c_8) (
            .pure false)) (
          .pure false)) (
        .pure false)) (
      .pure false))
noncomputable def law03_awake_F : Option Bool := (law03_awake_T).run
def law03_awake_L : List (Nat × LoopAnn) := []
noncomputable def law03_awake_C : List (Nat × Callee) := [(11, .plain trie_Build_fun), (9, .plain trie_Check_fun), (14, .plain trie_Trie_Get_fun), (15, .plain trie_Trie_Pages_fun), (10, .plain law02_Told_fun)]
noncomputable def law03_awake_fun : Fun := ⟨[], [.v .bool], fun _ => law03_awake_F⟩
theorem law03_awake_ev (x : Tys.I []) : evFun G0 (fun f => olook f law03_awake_C) ⟨[], [], [], [], [], []⟩ (fun i => olook i law03_awake_L) Tryd.f7 [] [.v .bool] x = law03_awake_T := by kernel_rfl
theorem law03_awake_ok : FunOk Tryd.prog 7 law03_awake_fun := evFun_ok mixed ctx0 (pc trie_Build_ok (pc trie_Check_ok (pc trie_Trie_Get_ok (pc trie_Trie_Pages_ok (pc law02_Told_ok (no_calls)))))) Tryd.func7 (by kernel_rfl) _ (fun x => congrArg Tr.run (law03_awake_ev x)) (by kernel_rfl) (by kernel_rfl)
/-! ### boustrophedon/boustrophedonlaw03.first -/
noncomputable def law03_first_L3 (rs0 : List (Int × Int × Int)) (last4 : Int) (k5 : Int) : Tr (Lap ((List (Int × Int × Int)) × Int × Int) (Sum Unit (Int × Int))) :=
  .br (decide (k5 < (rs0.length : Int))) (
    .bnd (idx rs0 k5) fun x_1 =>
    .br (decide (x_1.1 < 0)) (
      .pure (.done (.inr (k5, 4)))) (
      .bnd (idx rs0 k5) fun x_2 =>
      .br (decide (x_2.2.1 > 1114111)) (
        .pure (.done (.inr (k5, 4)))) (
        .bnd (idx rs0 k5) fun x_3 =>
        .bnd (idx rs0 k5) fun x_4 =>
        .br (decide (x_3.2.1 < x_4.1)) (
          .pure (.done (.inr (k5, 4)))) (
          .bnd (idx rs0 k5) fun x_5 =>
          .br (decide ((IntKind.i64.wrap x_5.1) ≤ last4)) (
            .pure (.done (.inr (k5, 5)))) (
            .bnd (idx rs0 k5) fun x_6 =>
            .pure (.next (rs0, IntKind.i64.wrap x_6.2.1, IntKind.i64.wrap (k5 + 1)))))))) (
    .pure (.done (.inl ())))
noncomputable def law03_first_T (rs0 : List (Int × Int × Int)) : Tr (Int × Int) :=
  .alt (loopW (fun s => (law03_first_L3 s.1 s.2.1 s.2.2).run) (rs0, (-1), 0)) (fun l_7 =>
    .pure ((-1), 0)) (fun l_8 =>
    .pure (l_8.1, l_8.2))
noncomputable def law03_first_F (rs0 : List (Int × Int × Int)) : Option (Int × Int) := (law03_first_T rs0).run
def law03_first_L : List (Nat × LoopAnn) := [(3, { head := [.sv 0 false (.sl (.st (.pair (.int .i32) (.pair (.int .i32) (.int .u8))))), .sv 4 true (.int .i64), .sv 5 true (.int .i64)], xid := 0, out := [], hasRet := true, res := [.sv 2 true (.int .i64), .sv 3 true (.int .i64)] })]
noncomputable def law03_first_C : List (Nat × Callee) := []
noncomputable def law03_first_fun : Fun := ⟨[.sl (.st (.pair (.int .i32) (.pair (.int .i32) (.int .u8))))], [.v (.int .i64), .v (.int .i64)], fun x => law03_first_F x.1⟩
theorem law03_first_ev (x : Tys.I [.sl (.st (.pair (.int .i32) (.pair (.int .i32) (.int .u8))))]) : evFun G0 (fun f => olook f law03_first_C) ⟨[], [], [], [], [], []⟩ (fun i => olook i law03_first_L) Tryd.f8 [.sl (.st (.pair (.int .i32) (.pair (.int .i32) (.int .u8))))] [.v (.int .i64), .v (.int .i64)] x = law03_first_T x.1 := by kernel_rfl
theorem law03_first_ok : FunOk Tryd.prog 8 law03_first_fun := evFun_ok mixed ctx0 (no_calls) Tryd.func8 (by kernel_rfl) _ (fun x => congrArg Tr.run (law03_first_ev x)) (by kernel_rfl) (by kernel_rfl)
/-! ### boustrophedon/boustrophedonlaw03.TrieChecks -/
noncomputable def law03_TrieChecks_T (rs0 : List (Int × Int × Int)) (other1 : Int) : Tr Bool :=
  .bnd law03_awake_F fun c_1 =>
  .br (!c_1) (
    .pure false) (
    .bnd (law03_first_F rs0) fun c_2 =>
    .bnd (trie_Check_F rs0) fun c_3 =>
    .bnd (law02_Told_F c_3 c_2.2 (ByteArray.mk #[114, 97, 110, 103, 101]) (if c_2.1 > 0 then c_2.1 else 0)) fun c_4 =>
    .br (!c_4) (
      .pure false) (
      .bnd (trie_Build_F rs0 other1) fun c_5 =>
      .bnd (law02_Told_F c_5.2 c_2.2 (ByteArray.mk #[114, 97, 110, 103, 101]) (if c_2.1 > 0 then c_2.1 else 0)) fun c_6 =>
      .br c_6 (
        .pure (false == (c_2.2 != 0))) (
        .pure false)))
noncomputable def law03_TrieChecks_F (rs0 : List (Int × Int × Int)) (other1 : Int) : Option Bool := (law03_TrieChecks_T rs0 other1).run
def law03_TrieChecks_L : List (Nat × LoopAnn) := []
noncomputable def law03_TrieChecks_C : List (Nat × Callee) := [(7, .plain law03_awake_fun), (8, .plain law03_first_fun), (9, .plain trie_Check_fun), (10, .plain law02_Told_fun), (11, .plain trie_Build_fun)]
noncomputable def law03_TrieChecks_fun : Fun := ⟨[.sl (.st (.pair (.int .i32) (.pair (.int .i32) (.int .u8)))), .int .u8], [.v .bool], fun x => law03_TrieChecks_F x.1 x.2.1⟩
theorem law03_TrieChecks_ev (x : Tys.I [.sl (.st (.pair (.int .i32) (.pair (.int .i32) (.int .u8)))), .int .u8]) : evFun G0 (fun f => olook f law03_TrieChecks_C) ⟨[], [], [], [], [], []⟩ (fun i => olook i law03_TrieChecks_L) Tryd.f3 [.sl (.st (.pair (.int .i32) (.pair (.int .i32) (.int .u8)))), .int .u8] [.v .bool] x = law03_TrieChecks_T x.1 x.2.1 := by kernel_rfl
theorem law03_TrieChecks_ok : FunOk Tryd.prog 3 law03_TrieChecks_fun := evFun_ok mixed ctx0 (pc law03_awake_ok (pc law03_first_ok (pc trie_Check_ok (pc law02_Told_ok (pc trie_Build_ok (no_calls)))))) Tryd.func3 (by kernel_rfl) _ (fun x => congrArg Tr.run (law03_TrieChecks_ev x)) (by kernel_rfl) (by kernel_rfl)
/-! ### boustrophedon/boustrophedonlaw03.abs -/
noncomputable def law03_abs_T (n0 : Int) : Tr Int :=
  .br (decide (n0 < 0)) (
    .pure (IntKind.i64.wrap (0 - n0))) (
    .pure n0)
noncomputable def law03_abs_F (n0 : Int) : Option Int := (law03_abs_T n0).run
def law03_abs_L : List (Nat × LoopAnn) := []
noncomputable def law03_abs_C : List (Nat × Callee) := []
noncomputable def law03_abs_fun : Fun := ⟨[.int .i64], [.v (.int .i64)], fun x => law03_abs_F x.1⟩
theorem law03_abs_ev (x : Tys.I [.int .i64]) : evFun G0 (fun f => olook f law03_abs_C) ⟨[], [], [], [], [], []⟩ (fun i => olook i law03_abs_L) Tryd.f20 [.int .i64] [.v (.int .i64)] x = law03_abs_T x.1 := by kernel_rfl
theorem law03_abs_ok : FunOk Tryd.prog 20 law03_abs_fun := evFun_ok mixed ctx0 (no_calls) Tryd.func20 (by kernel_rfl) _ (fun x => congrArg Tr.run (law03_abs_ev x)) (by kernel_rfl) (by kernel_rfl)
/-! ### boustrophedon/boustrophedonlaw03.Make -/
noncomputable def law03_Make_L4 (raw0 : List (Int × Int × Int)) (out3 : List (Int × Int × Int)) (at4 : Int) (k5 : Int) : Tr (Lap ((List (Int × Int × Int)) × (List (Int × Int × Int)) × Int × Int) (List (Int × Int × Int))) :=
  .br (decide (k5 < (raw0.length : Int))) (
    .br (decide (k5 < 12)) (
      .bnd (idx raw0 k5) fun x_1 =>
      .bnd (law03_abs_F (IntKind.i64.wrap x_1.1)) fun c_2 =>
      .bnd (idx raw0 k5) fun x_3 =>
      .bnd (law03_abs_F (IntKind.i64.wrap x_3.2.1)) fun c_4 =>
      .bnd (idx raw0 k5) fun x_5 =>
      .bnd (app 11728124029610 out3 ([(IntKind.i32.wrap (IntKind.i64.wrap (at4 + (c_2.tmod 3000))), IntKind.i32.wrap (IntKind.i64.wrap ((IntKind.i64.wrap (at4 + (c_2.tmod 3000))) + (c_4.tmod 1000))), x_5.2.2)])) fun r_6 =>
      .pure (.next (raw0, r_6, IntKind.i64.wrap ((IntKind.i64.wrap ((IntKind.i64.wrap (at4 + (c_2.tmod 3000))) + (c_4.tmod 1000))) + 1), IntKind.i64.wrap (k5 + 1)))) (
      .pure (.done out3))) (
    .pure (.done out3))
noncomputable def law03_Make_T (raw0 : List (Int × Int × Int)) : Tr (List (Int × Int × Int)) :=
  .bnd (loopW (fun s => (law03_Make_L4 s.1 s.2.1 s.2.2.1 s.2.2.2).run) (raw0, [], 0, 0)) fun l_7 =>
  .pure l_7
noncomputable def law03_Make_F (raw0 : List (Int × Int × Int)) : Option (List (Int × Int × Int)) := (law03_Make_T raw0).run
def law03_Make_L : List (Nat × LoopAnn) := [(4, { head := [.sv 0 false (.sl (.st (.pair (.int .i32) (.pair (.int .i32) (.int .u8))))), .srow 3 1000003 40 true (.st (.pair (.int .i32) (.pair (.int .i32) (.int .u8)))), .sv 4 true (.int .i64), .sv 5 true (.int .i64)], xid := 0, out := [.srow 3 1000003 40 true (.st (.pair (.int .i32) (.pair (.int .i32) (.int .u8))))], hasRet := false, res := [] })]
noncomputable def law03_Make_C : List (Nat × Callee) := [(20, .plain law03_abs_fun)]
noncomputable def law03_Make_fun : Fun := ⟨[.sl (.st (.pair (.int .i32) (.pair (.int .i32) (.int .u8))))], [.row 40 (.st (.pair (.int .i32) (.pair (.int .i32) (.int .u8))))], fun x => law03_Make_F x.1⟩
theorem law03_Make_ev (x : Tys.I [.sl (.st (.pair (.int .i32) (.pair (.int .i32) (.int .u8))))]) : evFun G0 (fun f => olook f law03_Make_C) ⟨[], [], [], [], [], []⟩ (fun i => olook i law03_Make_L) Tryd.f12 [.sl (.st (.pair (.int .i32) (.pair (.int .i32) (.int .u8))))] [.row 40 (.st (.pair (.int .i32) (.pair (.int .i32) (.int .u8))))] x = law03_Make_T x.1 := by kernel_rfl
theorem law03_Make_ok : FunOk Tryd.prog 12 law03_Make_fun := evFun_ok mixed ctx0 (pc law03_abs_ok (no_calls)) Tryd.func12 (by kernel_rfl) _ (fun x => congrArg Tr.run (law03_Make_ev x)) (by kernel_rfl) (by kernel_rfl)
/-! ### boustrophedon/boustrophedonlaw03.of -/
noncomputable def law03_of_L2 (rs0 : List (Int × Int × Int)) (other1 : Int) (r2 : Int) (k7 : Int) : Tr (Lap ((List (Int × Int × Int)) × Int × Int × Int) (Sum Int Int)) :=
  .br (decide (k7 < (rs0.length : Int))) (
    .bnd (idx rs0 k7) fun x_1 =>
    .br (decide ((IntKind.i64.wrap x_1.1) ≤ r2)) (
      .bnd (idx rs0 k7) fun x_2 =>
      .br (decide (r2 ≤ (IntKind.i64.wrap x_2.2.1))) (
        .bnd (idx rs0 k7) fun x_3 =>
        .pure (.done (.inr x_3.2.2))) (
        .pure (.next (rs0, other1, r2, IntKind.i64.wrap (k7 + 1))))) (
      .pure (.next (rs0, other1, r2, IntKind.i64.wrap (k7 + 1))))) (
    .pure (.done (.inl other1)))
noncomputable def law03_of_T (rs0 : List (Int × Int × Int)) (other1 : Int) (r2 : Int) : Tr Int :=
  .alt (loopW (fun s => (law03_of_L2 s.1 s.2.1 s.2.2.1 s.2.2.2).run) (rs0, other1, r2, 0)) (fun l_4 =>
    .pure l_4) (fun l_5 =>
    .pure l_5)
noncomputable def law03_of_F (rs0 : List (Int × Int × Int)) (other1 : Int) (r2 : Int) : Option Int := (law03_of_T rs0 other1 r2).run
def law03_of_L : List (Nat × LoopAnn) := [(2, { head := [.sv 0 false (.sl (.st (.pair (.int .i32) (.pair (.int .i32) (.int .u8))))), .sv 1 false (.int .u8), .sv 2 false (.int .i64), .sv 7 true (.int .i64)], xid := 0, out := [.sv 1 false (.int .u8)], hasRet := true, res := [.sv 6 false (.int .u8)] })]
noncomputable def law03_of_C : List (Nat × Callee) := []
noncomputable def law03_of_fun : Fun := ⟨[.sl (.st (.pair (.int .i32) (.pair (.int .i32) (.int .u8)))), .int .u8, .int .i64], [.v (.int .u8)], fun x => law03_of_F x.1 x.2.1 x.2.2.1⟩
theorem law03_of_ev (x : Tys.I [.sl (.st (.pair (.int .i32) (.pair (.int .i32) (.int .u8)))), .int .u8, .int .i64]) : evFun G0 (fun f => olook f law03_of_C) ⟨[], [], [], [], [], []⟩ (fun i => olook i law03_of_L) Tryd.f13 [.sl (.st (.pair (.int .i32) (.pair (.int .i32) (.int .u8)))), .int .u8, .int .i64] [.v (.int .u8)] x = law03_of_T x.1 x.2.1 x.2.2.1 := by kernel_rfl
theorem law03_of_ok : FunOk Tryd.prog 13 law03_of_fun := evFun_ok mixed ctx0 (no_calls) Tryd.func13 (by kernel_rfl) _ (fun x => congrArg Tr.run (law03_of_ev x)) (by kernel_rfl) (by kernel_rfl)
/-! ### boustrophedon/boustrophedonlaw03.TrieGets -/
noncomputable def law03_TrieGets_L8 (other1 : Int) (rs2 : List Int) (l7 : List (Int × Int × Int)) (t8 : List Int × List Int) (k10 : Int) : Tr (Lap (Int × List Int × (List (Int × Int × Int)) × (List Int × List Int) × Int) (Sum (Int × (List (Int × Int × Int)) × List Int × List Int) Bool)) :=
  .br (decide (k10 < (rs2.length : Int))) (
    .bnd (idx rs2 k10) fun x_4 =>
    .bnd (law03_of_F l7 other1 (IntKind.i64.wrap x_4)) fun c_5 =>
    .bnd (idx rs2 k10) fun x_6 =>
    .br (decide (x_6 < 0)) (
      .bnd (idx rs2 k10) fun x_7 =>
      .bnd (trie_Trie_Get_F t8 x_7) fun c_8 =>
      .br (c_8 != 0) (
        .pure (.done (.inr false))) (
        .pure (.next (other1, rs2, l7, t8, IntKind.i64.wrap (k10 + 1))))) (
      .bnd (idx rs2 k10) fun x_9 =>
      .br (decide (x_9 > 1114111)) (
        .bnd (idx rs2 k10) fun x_10 =>
        .bnd (trie_Trie_Get_F t8 x_10) fun c_11 =>
        .br (c_11 != 0) (
          .pure (.done (.inr false))) (
          .pure (.next (other1, rs2, l7, t8, IntKind.i64.wrap (k10 + 1))))) (
        .bnd (idx rs2 k10) fun x_12 =>
        .bnd (trie_Trie_Get_F t8 x_12) fun c_13 =>
        .br (c_13 != c_5) (
          .pure (.done (.inr false))) (
          .pure (.next (other1, rs2, l7, t8, IntKind.i64.wrap (k10 + 1))))))) (
    .pure (.done (.inl (other1, l7, t8))))
noncomputable def law03_TrieGets_L16 (other1 : Int) (l7 : List (Int × Int × Int)) (t8 : List Int × List Int) (k12 : Int) : Tr (Lap (Int × (List (Int × Int × Int)) × (List Int × List Int) × Int) (Sum Unit Bool)) :=
  .br (decide (k12 < (l7.length : Int))) (
    .bnd (idx l7 k12) fun x_15 =>
    .bnd (idx l7 k12) fun x_16 =>
    .bnd (trie_Trie_Get_F t8 x_15.1) fun c_17 =>
    .br (c_17 != x_16.2.2) (
      .pure (.done (.inr false))) (
      .bnd (idx l7 k12) fun x_18 =>
      .bnd (idx l7 k12) fun x_19 =>
      .bnd (trie_Trie_Get_F t8 x_18.2.1) fun c_20 =>
      .br (c_20 != x_19.2.2) (
        .pure (.done (.inr false))) (
        .bnd (idx l7 k12) fun x_21 =>
        .bnd (idx l7 k12) fun x_22 =>
        .bnd (trie_Trie_Get_F t8 (IntKind.i32.wrap (x_21.2.1 + 1))) fun c_23 =>
        .bnd (law03_of_F l7 other1 (IntKind.i64.wrap ((IntKind.i64.wrap x_22.2.1) + 1))) fun c_24 =>
        .br (c_23 != c_24) (
          .pure (.done (.inr false))) (
          .pure (.next (other1, l7, t8, IntKind.i64.wrap (k12 + 1))))))) (
    .pure (.done (.inl ())))
noncomputable def law03_TrieGets_T (raw0 : List (Int × Int × Int)) (other1 : Int) (rs2 : List Int) : Tr Bool :=
  .bnd law03_awake_F fun c_1 =>
  .br (!c_1) (
    .pure false) (
    .bnd (law03_Make_F raw0) fun c_2 =>
    .bnd (trie_Build_F c_2 other1) fun c_3 =>
    .br c_3.2.isSome (
      .pure false) (
      .alt (loopW (fun s => (law03_TrieGets_L8 s.1 s.2.1 s.2.2.1 s.2.2.2.1 s.2.2.2.2).run) (other1, rs2, c_2, c_3.1, 0)) (fun l_14 =>
        .alt (loopW (fun s => (law03_TrieGets_L16 s.1 s.2.1 s.2.2.1 s.2.2.2).run) (l_14.1, l_14.2.1, l_14.2.2, 0)) (fun l_25 =>
          .pure true) (fun l_26 =>
          .pure l_26)) (fun l_27 =>
        .pure l_27)))
noncomputable def law03_TrieGets_F (raw0 : List (Int × Int × Int)) (other1 : Int) (rs2 : List Int) : Option Bool := (law03_TrieGets_T raw0 other1 rs2).run
def law03_TrieGets_L : List (Nat × LoopAnn) := [(8, { head := [.sv 1 false (.int .u8), .sv 2 false (.sl (.int .i32)), .srow 7 1000007 40 true (.st (.pair (.int .i32) (.pair (.int .i32) (.int .u8)))), .sv 8 true (.ptr (.st (.pair (.sl (.int .i64)) (.sl (.int .u8))))), .sv 10 true (.int .i64)], xid := 0, out := [.sv 1 false (.int .u8), .srow 7 1000007 40 true (.st (.pair (.int .i32) (.pair (.int .i32) (.int .u8)))), .sv 8 true (.ptr (.st (.pair (.sl (.int .i64)) (.sl (.int .u8)))))], hasRet := true, res := [.sv 6 true .bool] }), (16, { head := [.sv 1 false (.int .u8), .srow 7 1000007 40 true (.st (.pair (.int .i32) (.pair (.int .i32) (.int .u8)))), .sv 8 true (.ptr (.st (.pair (.sl (.int .i64)) (.sl (.int .u8))))), .sv 12 true (.int .i64)], xid := 2, out := [], hasRet := true, res := [.sv 6 true .bool] })]
noncomputable def law03_TrieGets_C : List (Nat × Callee) := [(7, .plain law03_awake_fun), (12, .plain law03_Make_fun), (11, .plain trie_Build_fun), (13, .plain law03_of_fun), (14, .plain trie_Trie_Get_fun)]
noncomputable def law03_TrieGets_fun : Fun := ⟨[.sl (.st (.pair (.int .i32) (.pair (.int .i32) (.int .u8)))), .int .u8, .sl (.int .i32)], [.v .bool], fun x => law03_TrieGets_F x.1 x.2.1 x.2.2.1⟩
theorem law03_TrieGets_ev (x : Tys.I [.sl (.st (.pair (.int .i32) (.pair (.int .i32) (.int .u8)))), .int .u8, .sl (.int .i32)]) : evFun G0 (fun f => olook f law03_TrieGets_C) ⟨[], [(18, [0, 1, 2, 3, 4, 5, 7, 8, 9, 10, 11, 6, 12, 13, 14, 15, 16, 17, 18, 19, 21, 22, 23, 24, 25, 20, 26, 27, 28, 29, 30, 31, 32, 33, 34, 35, 37, 38, 39, 40, 41, 42, 43, 44, 45, 36, 46, 47, 48])], [], [], [], []⟩ (fun i => olook i law03_TrieGets_L) Tryd.f4 [.sl (.st (.pair (.int .i32) (.pair (.int .i32) (.int .u8)))), .int .u8, .sl (.int .i32)] [.v .bool] x = law03_TrieGets_T x.1 x.2.1 x.2.2.1 := by kernel_rfl
theorem law03_TrieGets_ok : FunOk Tryd.prog 4 law03_TrieGets_fun := evFun_ok mixed ctx0 (pc law03_awake_ok (pc law03_Make_ok (pc trie_Build_ok (pc law03_of_ok (pc trie_Trie_Get_ok (no_calls)))))) Tryd.func4 (by kernel_rfl) _ (fun x => congrArg Tr.run (law03_TrieGets_ev x)) (by kernel_rfl) (by kernel_rfl)
/-! ### boustrophedon/boustrophedonlaw03.TriePages -/
noncomputable def law03_TriePages_L19 (other1 : Int) (l5 : List (Int × Int × Int)) (t6 : List Int × List Int) (end8 : Int) (pages9 : List ByteArray) (p10 : Int) (s11 : ByteArray) (k12 : Int) (i13 : Int) : Tr (Lap (Int × (List (Int × Int × Int)) × (List Int × List Int) × Int × List ByteArray × Int × ByteArray × Int × Int) (Int × (List (Int × Int × Int)) × (List Int × List Int) × Int × List ByteArray × Int × ByteArray × Int × Int)) :=
  .br (decide (k12 < (l5.length : Int))) (
    .bnd (idx l5 k12) fun x_5 =>
    .br (decide ((IntKind.i64.wrap x_5.2.1) < (IntKind.i64.wrap ((IntKind.i64.wrap (128 * p10)) + i13)))) (
      .pure (.next (other1, l5, t6, end8, pages9, p10, s11, IntKind.i64.wrap (k12 + 1), i13))) (
      .pure (.done (other1, l5, t6, end8, pages9, p10, s11, k12, i13)))) (
    .pure (.done (other1, l5, t6, end8, pages9, p10, s11, k12, i13)))
noncomputable def law03_TriePages_L17 (other1 : Int) (l5 : List (Int × Int × Int)) (t6 : List Int × List Int) (end8 : Int) (pages9 : List ByteArray) (p10 : Int) (s11 : ByteArray) (k12 : Int) (i13 : Int) : Tr (Lap (Int × (List (Int × Int × Int)) × (List Int × List Int) × Int × List ByteArray × Int × ByteArray × Int × Int) (Int × (List (Int × Int × Int)) × (List Int × List Int) × Int × List ByteArray × Int × ByteArray)) :=
  .br (decide (i13 < 128)) (
    .bnd (loopW (fun s => (law03_TriePages_L19 s.1 s.2.1 s.2.2.1 s.2.2.2.1 s.2.2.2.2.1 s.2.2.2.2.2.1 s.2.2.2.2.2.2.1 s.2.2.2.2.2.2.2.1 s.2.2.2.2.2.2.2.2).run) (other1, l5, t6, end8, pages9, p10, s11, k12, i13)) fun l_6 =>
    .br (decide (l_6.2.2.2.2.2.2.2.1 < (l_6.2.1.length : Int))) (
      .bnd (idx l_6.2.1 l_6.2.2.2.2.2.2.2.1) fun x_7 =>
      .br (decide ((IntKind.i64.wrap x_7.1) ≤ (IntKind.i64.wrap ((IntKind.i64.wrap (128 * l_6.2.2.2.2.2.1)) + l_6.2.2.2.2.2.2.2.2)))) (
        .bnd (idx l_6.2.1 l_6.2.2.2.2.2.2.2.1) fun x_8 =>
        .br (decide (l_6.2.2.2.2.2.2.1.size + (strOfNums ([x_8.2.2])).size ≤ 9223372036854775807)) (
          .pure (.next (l_6.1, l_6.2.1, l_6.2.2.1, l_6.2.2.2.1, l_6.2.2.2.2.1, l_6.2.2.2.2.2.1, l_6.2.2.2.2.2.2.1 ++ (strOfNums ([x_8.2.2])), l_6.2.2.2.2.2.2.2.1, IntKind.i64.wrap (l_6.2.2.2.2.2.2.2.2 + 1)))) (
          .fail)) (
        .br (decide (l_6.2.2.2.2.2.2.1.size + (strOfNums ([l_6.1])).size ≤ 9223372036854775807)) (
          .pure (.next (l_6.1, l_6.2.1, l_6.2.2.1, l_6.2.2.2.1, l_6.2.2.2.2.1, l_6.2.2.2.2.2.1, l_6.2.2.2.2.2.2.1 ++ (strOfNums ([l_6.1])), l_6.2.2.2.2.2.2.2.1, IntKind.i64.wrap (l_6.2.2.2.2.2.2.2.2 + 1)))) (
          .fail))) (
      .br (decide (l_6.2.2.2.2.2.2.1.size + (strOfNums ([l_6.1])).size ≤ 9223372036854775807)) (
        .pure (.next (l_6.1, l_6.2.1, l_6.2.2.1, l_6.2.2.2.1, l_6.2.2.2.2.1, l_6.2.2.2.2.2.1, l_6.2.2.2.2.2.2.1 ++ (strOfNums ([l_6.1])), l_6.2.2.2.2.2.2.2.1, IntKind.i64.wrap (l_6.2.2.2.2.2.2.2.2 + 1)))) (
        .fail))) (
    .pure (.done (other1, l5, t6, end8, pages9, p10, s11)))
noncomputable def law03_TriePages_L27 (other1 : Int) (l5 : List (Int × Int × Int)) (t6 : List Int × List Int) (end8 : Int) (pages9 : List ByteArray) (p10 : Int) (s11 : ByteArray) (found15 : Bool) (i16 : Int) : Tr (Lap (Int × (List (Int × Int × Int)) × (List Int × List Int) × Int × List ByteArray × Int × ByteArray × Bool × Int) (Int × (List (Int × Int × Int)) × (List Int × List Int) × Int × List ByteArray × Int × ByteArray × Bool)) :=
  .br (decide (i16 < (pages9.length : Int))) (
    .br found15 (
      .pure (.next (other1, l5, t6, end8, pages9, p10, s11, true, IntKind.i64.wrap (i16 + 1)))) (
      .bnd (idx pages9 i16) fun x_10 =>
      .pure (.next (other1, l5, t6, end8, pages9, p10, s11, x_10.toList == s11.toList, IntKind.i64.wrap (i16 + 1))))) (
    .pure (.done (other1, l5, t6, end8, pages9, p10, s11, found15)))
noncomputable def law03_TriePages_L12 (other1 : Int) (l5 : List (Int × Int × Int)) (t6 : List Int × List Int) (end8 : Int) (pages9 : List ByteArray) (p10 : Int) : Tr (Lap (Int × (List (Int × Int × Int)) × (List Int × List Int) × Int × List ByteArray × Int) ((List Int × List Int) × List ByteArray)) :=
  .br (decide (p10 < (if end8 > 1 then end8 else 1))) (
    .bnd (loopW (fun s => (law03_TriePages_L17 s.1 s.2.1 s.2.2.1 s.2.2.2.1 s.2.2.2.2.1 s.2.2.2.2.2.1 s.2.2.2.2.2.2.1 s.2.2.2.2.2.2.2.1 s.2.2.2.2.2.2.2.2).run) (other1, l5, t6, end8, pages9, p10, (ByteArray.mk #[]), 0, 0)) fun l_9 =>
    .bnd (loopW (fun s => (law03_TriePages_L27 s.1 s.2.1 s.2.2.1 s.2.2.2.1 s.2.2.2.2.1 s.2.2.2.2.2.1 s.2.2.2.2.2.2.1 s.2.2.2.2.2.2.2.1 s.2.2.2.2.2.2.2.2).run) (l_9.1, l_9.2.1, l_9.2.2.1, l_9.2.2.2.1, l_9.2.2.2.2.1, l_9.2.2.2.2.2.1, l_9.2.2.2.2.2.2, false, 0)) fun l_11 =>
    .br (!l_11.2.2.2.2.2.2.2) (
      .bnd (app 8796093022208 l_11.2.2.2.2.1 ([l_11.2.2.2.2.2.2.1])) fun r_12 =>
      .pure (.next (l_11.1, l_11.2.1, l_11.2.2.1, l_11.2.2.2.1, r_12, IntKind.i64.wrap (l_11.2.2.2.2.2.1 + 1)))) (
      .pure (.next (l_11.1, l_11.2.1, l_11.2.2.1, l_11.2.2.2.1, l_11.2.2.2.2.1, IntKind.i64.wrap (l_11.2.2.2.2.2.1 + 1))))) (
    .pure (.done (t6, pages9)))
noncomputable def law03_TriePages_T (raw0 : List (Int × Int × Int)) (other1 : Int) : Tr Bool :=
  .bnd law03_awake_F fun c_1 =>
  .br (!c_1) (
    .pure false) (
    .bnd (law03_Make_F raw0) fun c_2 =>
    .bnd (trie_Build_F c_2 other1) fun c_3 =>
    .br c_3.2.isSome (
      .pure false) (
      .br (decide ((c_2.length : Int) > 0)) (
        .bnd (idx c_2 (IntKind.i64.wrap ((c_2.length : Int) - 1))) fun x_4 =>
        .bnd (loopW (fun s => (law03_TriePages_L12 s.1 s.2.1 s.2.2.1 s.2.2.2.1 s.2.2.2.2.1 s.2.2.2.2.2).run) (other1, c_2, c_3.1, IntKind.i64.wrap ((IntKind.i64.wrap ((IntKind.i64.wrap x_4.2.1).tdiv 128)) + 2), [], 0)) fun l_13 =>
        .bnd (trie_Trie_Pages_F l_13.1) fun c_14 =>
        .pure (c_14 == (l_13.2.length : Int))) (
        .bnd (loopW (fun s => (law03_TriePages_L12 s.1 s.2.1 s.2.2.1 s.2.2.2.1 s.2.2.2.2.1 s.2.2.2.2.2).run) (other1, c_2, c_3.1, 0, [], 0)) fun l_15 =>
        .bnd (trie_Trie_Pages_F l_15.1) fun c_16 =>
        .pure (c_16 == (l_15.2.length : Int)))))
noncomputable def law03_TriePages_F (raw0 : List (Int × Int × Int)) (other1 : Int) : Option Bool := (law03_TriePages_T raw0 other1).run
def law03_TriePages_L : List (Nat × LoopAnn) := [(19, { head := [.sv 1 false (.int .u8), .srow 5 1000005 40 true (.st (.pair (.int .i32) (.pair (.int .i32) (.int .u8)))), .sv 6 true (.ptr (.st (.pair (.sl (.int .i64)) (.sl (.int .u8))))), .sv 8 true (.int .i64), .srow 9 1000009 9 true .str, .sv 10 true (.int .i64), .sv 11 true .str, .sv 12 true (.int .i64), .sv 13 true (.int .i64)], xid := 4, out := [.sv 1 false (.int .u8), .srow 5 1000005 40 true (.st (.pair (.int .i32) (.pair (.int .i32) (.int .u8)))), .sv 6 true (.ptr (.st (.pair (.sl (.int .i64)) (.sl (.int .u8))))), .sv 8 true (.int .i64), .srow 9 1000009 9 true .str, .sv 10 true (.int .i64), .sv 11 true .str, .sv 12 true (.int .i64), .sv 13 true (.int .i64)], hasRet := false, res := [] }), (17, { head := [.sv 1 false (.int .u8), .srow 5 1000005 40 true (.st (.pair (.int .i32) (.pair (.int .i32) (.int .u8)))), .sv 6 true (.ptr (.st (.pair (.sl (.int .i64)) (.sl (.int .u8))))), .sv 8 true (.int .i64), .srow 9 1000009 9 true .str, .sv 10 true (.int .i64), .sv 11 true .str, .sv 12 true (.int .i64), .sv 13 true (.int .i64)], xid := 2, out := [.sv 1 false (.int .u8), .srow 5 1000005 40 true (.st (.pair (.int .i32) (.pair (.int .i32) (.int .u8)))), .sv 6 true (.ptr (.st (.pair (.sl (.int .i64)) (.sl (.int .u8))))), .sv 8 true (.int .i64), .srow 9 1000009 9 true .str, .sv 10 true (.int .i64), .sv 11 true .str], hasRet := false, res := [] }), (27, { head := [.sv 1 false (.int .u8), .srow 5 1000005 40 true (.st (.pair (.int .i32) (.pair (.int .i32) (.int .u8)))), .sv 6 true (.ptr (.st (.pair (.sl (.int .i64)) (.sl (.int .u8))))), .sv 8 true (.int .i64), .srow 9 1000009 9 true .str, .sv 10 true (.int .i64), .sv 11 true .str, .sv 15 true .bool, .sv 16 true (.int .i64)], xid := 6, out := [.sv 1 false (.int .u8), .srow 5 1000005 40 true (.st (.pair (.int .i32) (.pair (.int .i32) (.int .u8)))), .sv 6 true (.ptr (.st (.pair (.sl (.int .i64)) (.sl (.int .u8))))), .sv 8 true (.int .i64), .srow 9 1000009 9 true .str, .sv 10 true (.int .i64), .sv 11 true .str, .sv 15 true .bool], hasRet := false, res := [] }), (12, { head := [.sv 1 false (.int .u8), .srow 5 1000005 40 true (.st (.pair (.int .i32) (.pair (.int .i32) (.int .u8)))), .sv 6 true (.ptr (.st (.pair (.sl (.int .i64)) (.sl (.int .u8))))), .sv 8 true (.int .i64), .srow 9 1000009 9 true .str, .sv 10 true (.int .i64)], xid := 0, out := [.sv 6 true (.ptr (.st (.pair (.sl (.int .i64)) (.sl (.int .u8))))), .srow 9 1000009 9 true .str], hasRet := false, res := [] })]
noncomputable def law03_TriePages_C : List (Nat × Callee) := [(7, .plain law03_awake_fun), (12, .plain law03_Make_fun), (11, .plain trie_Build_fun), (15, .plain trie_Trie_Pages_fun)]
noncomputable def law03_TriePages_fun : Fun := ⟨[.sl (.st (.pair (.int .i32) (.pair (.int .i32) (.int .u8)))), .int .u8], [.v .bool], fun x => law03_TriePages_F x.1 x.2.1⟩
theorem law03_TriePages_ev (x : Tys.I [.sl (.st (.pair (.int .i32) (.pair (.int .i32) (.int .u8)))), .int .u8]) : evFun G0 (fun f => olook f law03_TriePages_C) ⟨[], [], [], [], [], []⟩ (fun i => olook i law03_TriePages_L) Tryd.f5 [.sl (.st (.pair (.int .i32) (.pair (.int .i32) (.int .u8)))), .int .u8] [.v .bool] x = law03_TriePages_T x.1 x.2.1 := by kernel_rfl
theorem law03_TriePages_ok : FunOk Tryd.prog 5 law03_TriePages_fun := evFun_ok mixed ctx0 (pc law03_awake_ok (pc law03_Make_ok (pc trie_Build_ok (pc trie_Trie_Pages_ok (no_calls))))) Tryd.func5 (by kernel_rfl) _ (fun x => congrArg Tr.run (law03_TriePages_ev x)) (by kernel_rfl) (by kernel_rfl)
/-! ### boustrophedon/boustrophedonlaw03.TrieWide -/
noncomputable def law03_TrieWide_T (a0 : Int) (b1 : Int) (r2 : Int) : Tr Bool :=
  .bnd law03_awake_F fun c_1 =>
  .br (!c_1) (
    .pure false) (
    .bnd (trie_Build_F ([((0 : Int), (1114111 : Int), a0)]) b1) fun c_2 =>
    .bnd (trie_Build_F ([]) b1) fun c_3 =>
    .br c_2.2.isSome (
      .pure false) (
      .br c_3.2.isSome (
        .pure false) (
        .bnd (trie_Trie_Pages_F c_2.1) fun c_4 =>
        .br (c_4 != 1) (
          .pure false) (
          .bnd (trie_Trie_Pages_F c_3.1) fun c_5 =>
          .br (c_5 != 1) (
            .pure false) (
            .br (decide (r2 < 0)) (
              .bnd (trie_Trie_Get_F c_2.1 r2) fun c_6 =>
              .br (c_6 == 0) (
                .bnd (trie_Trie_Get_F c_3.1 r2) fun c_7 =>
                .pure (c_7 == 0)) (
                .pure false)) (
              .br (decide (r2 > 1114111)) (
                .bnd (trie_Trie_Get_F c_2.1 r2) fun c_8 =>
                .br (c_8 == 0) (
                  .bnd (trie_Trie_Get_F c_3.1 r2) fun c_9 =>
                  .pure (c_9 == 0)) (
                  .pure false)) (
                .bnd (trie_Trie_Get_F c_2.1 r2) fun c_10 =>
                .br (c_10 == a0) (
                  .bnd (trie_Trie_Get_F c_3.1 r2) fun c_11 =>
                  .pure (c_11 == b1)) (
                  .pure false))))))))
noncomputable def law03_TrieWide_F (a0 : Int) (b1 : Int) (r2 : Int) : Option Bool := (law03_TrieWide_T a0 b1 r2).run
def law03_TrieWide_L : List (Nat × LoopAnn) := []
noncomputable def law03_TrieWide_C : List (Nat × Callee) := [(7, .plain law03_awake_fun), (11, .plain trie_Build_fun), (15, .plain trie_Trie_Pages_fun), (14, .plain trie_Trie_Get_fun)]
noncomputable def law03_TrieWide_fun : Fun := ⟨[.int .u8, .int .u8, .int .i32], [.v .bool], fun x => law03_TrieWide_F x.1 x.2.1 x.2.2.1⟩
theorem law03_TrieWide_ev (x : Tys.I [.int .u8, .int .u8, .int .i32]) : evFun G0 (fun f => olook f law03_TrieWide_C) ⟨[], [], [], [], [], []⟩ (fun i => olook i law03_TrieWide_L) Tryd.f6 [.int .u8, .int .u8, .int .i32] [.v .bool] x = law03_TrieWide_T x.1 x.2.1 x.2.2.1 := by kernel_rfl
theorem law03_TrieWide_ok : FunOk Tryd.prog 6 law03_TrieWide_fun := evFun_ok mixed ctx0 (pc law03_awake_ok (pc trie_Build_ok (pc trie_Trie_Pages_ok (pc trie_Trie_Get_ok (no_calls))))) Tryd.func6 (by kernel_rfl) _ (fun x => congrArg Tr.run (law03_TrieWide_ev x)) (by kernel_rfl) (by kernel_rfl)
end Go.Proofs.YtemapfidlomkhaaDoor
