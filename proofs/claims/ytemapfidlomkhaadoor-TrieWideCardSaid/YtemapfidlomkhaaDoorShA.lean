/-
  The plain readings of the functions of this seat, by program; each is tied to the loaded function.
-/
import Derived.Test.YtemapfidlomkhaaDoorEvTold2
import Derived.Test.YtemapfidlomkhaaDoorChecked
namespace Go.Proofs.YtemapfidlomkhaaDoor
set_option maxRecDepth 100000
set_option linter.unusedVariables false

def G0 : Ctx := { ty := [(3, .int .i64), (4, .bool), (5, .int .u8), (9, .str), (21, .int .i32), (22, .sl (.st (.pair (.int .i32) (.pair (.int .i32) (.int .u8))))), (24, .int .i64), (28, .err 57 24), (31, .ptr (.st (.pair (.sl (.int .i64)) (.sl (.int .u8))))), (35, .sl (.int .i32)), (40, .st (.pair (.int .i32) (.pair (.int .i32) (.int .u8)))), (42, .sl .str), (43, .sl (.int .u8)), (51, .sl (.int .i64)), (53, .st (.pair (.sl (.int .i64)) (.sl (.int .u8))))], sls := [(22, ⟨40, .st (.pair (.int .i32) (.pair (.int .i32) (.int .u8))), 11728124029610⟩), (35, ⟨21, .int .i32, 35184372088832⟩), (42, ⟨9, .str, 8796093022208⟩), (43, ⟨5, .int .u8, 140737488355328⟩), (51, ⟨3, .int .i64, 17592186044416⟩)], eqs := [], enos := [24] }
theorem mixed : Tryd.prog.follows .mixedOrders = true := by kernel_rfl
theorem ctx0 : CtxOk Tryd.prog G0 := ctx_ok (by kernel_rfl)
theorem no_calls {Λ : List Nat} : ∀ f fa, olook f ([] : List (Nat × Callee)) = some fa → CalleeOk Tryd.prog f fa ∧ (fa.isPlain = false → inList f Λ = true) := fun _ _ h => by cases h
theorem cons_calls {Λ : List Nat} {k : Nat} {fb : Callee} {l : List (Nat × Callee)} (h : CalleeOk Tryd.prog k fb) (hi : fb.isPlain = false → inList k Λ = true) (hl : ∀ f fa, olook f l = some fa → CalleeOk Tryd.prog f fa ∧ (fa.isPlain = false → inList f Λ = true)) : ∀ f fa, olook f ((k, fb) :: l) = some fa → CalleeOk Tryd.prog f fa ∧ (fa.isPlain = false → inList f Λ = true) := by
  intro f fa hf
  rw [olook_cons] at hf
  split at hf
  · rename_i e; subst e; cases hf; exact ⟨h, hi⟩
  · exact hl f fa hf

theorem pc {Λ : List Nat} {k : Nat} {fa : Fun} {l : List (Nat × Callee)} (h : FunOk Tryd.prog k fa) (hl : ∀ f fa, olook f l = some fa → CalleeOk Tryd.prog f fa ∧ (fa.isPlain = false → inList f Λ = true)) : ∀ f fb, olook f ((k, .plain fa) :: l) = some fb → CalleeOk Tryd.prog f fb ∧ (fb.isPlain = false → inList f Λ = true) := cons_calls (fb := .plain fa) h (fun h => by cases h) hl
/-! ### boustrophedon/api.Wrap -/
noncomputable def api_Wrap_F (e : Int) (s : ByteArray) (n : Int) : Option (Option (Int × ByteArray × Int)) := some (some (e, s, n))
noncomputable def api_Wrap_fun : Fun := ⟨[.eno 24, .str, .int .i64], [.v (.err 57 24)], fun x => api_Wrap_F x.1 x.2.1 x.2.2.1⟩
theorem api_Wrap_ok : FunOk Tryd.prog 16 api_Wrap_fun := wrap_ok (tF := 59) ⟨_, _, Tryd.func16, by kernel_rfl, rfl⟩ (fun k n s w => by
  go_enter Tryd.func16, Tryd.ntmps16
  go_wp2
  go_ret
  exact ⟨rfl, rfl⟩)
/-! ### boustrophedon/trie.Check -/
noncomputable def trie_Check_L3 (last3 : Int) (t6 : List (Int × Int × Int)) (t7 : Int) (t8 : Int) : Tr (Lap (Int × (List (Int × Int × Int)) × Int × Int) (Sum Unit (Option (Int × ByteArray × Int)))) :=
  .br (decide (t8 < t7)) (
    .bnd (idx t6 t8) fun x_1 =>
    .bnd (idx ([x_1]) 0) fun x_2 =>
    .br (decide (x_2.1 < 0)) (
      .bnd (api_Wrap_F 4 (ByteArray.mk #[114, 97, 110, 103, 101]) t8) fun c_3 =>
      .pure (.done (.inr c_3))) (
      .bnd (idx ([x_1]) 0) fun x_4 =>
      .br (decide (x_4.2.1 > 1114111)) (
        .bnd (api_Wrap_F 4 (ByteArray.mk #[114, 97, 110, 103, 101]) t8) fun c_5 =>
        .pure (.done (.inr c_5))) (
        .bnd (idx ([x_1]) 0) fun x_6 =>
        .bnd (idx ([x_1]) 0) fun x_7 =>
        .br (decide (x_6.2.1 < x_7.1)) (
          .bnd (api_Wrap_F 4 (ByteArray.mk #[114, 97, 110, 103, 101]) t8) fun c_8 =>
          .pure (.done (.inr c_8))) (
          .bnd (idx ([x_1]) 0) fun x_9 =>
          .br (decide (x_9.1 ≤ last3)) (
            .bnd (api_Wrap_F 5 (ByteArray.mk #[114, 97, 110, 103, 101]) t8) fun c_10 =>
            .pure (.done (.inr c_10))) (
            .bnd (idx ([x_1]) 0) fun x_11 =>
            .pure (.next (x_11.2.1, t6, t7, IntKind.i64.wrap (t8 + 1)))))))) (
    .pure (.done (.inl ())))
noncomputable def trie_Check_T (rs0 : List (Int × Int × Int)) : Tr (Option (Int × ByteArray × Int)) :=
  .alt (loopW (fun s => (trie_Check_L3 s.1 s.2.1 s.2.2.1 s.2.2.2).run) ((-1), rs0, (rs0.length : Int), 0)) (fun l_12 =>
    .pure none) (fun l_13 =>
    .pure l_13)
noncomputable def trie_Check_F (rs0 : List (Int × Int × Int)) : Option (Option (Int × ByteArray × Int)) := (trie_Check_T rs0).run
def trie_Check_L : List (Nat × LoopAnn) := [(3, { head := [.sv 3 true (.int .i32), .sv 6 false (.sl (.st (.pair (.int .i32) (.pair (.int .i32) (.int .u8))))), .sv 7 true (.int .i64), .sv 8 true (.int .i64)], xid := 0, out := [], hasRet := true, res := [.sv 2 true (.err 57 24)] })]
noncomputable def trie_Check_C : List (Nat × Callee) := [(16, .plain api_Wrap_fun)]
noncomputable def trie_Check_fun : Fun := ⟨[.sl (.st (.pair (.int .i32) (.pair (.int .i32) (.int .u8))))], [.v (.err 57 24)], fun x => trie_Check_F x.1⟩
theorem trie_Check_ev (x : Tys.I [.sl (.st (.pair (.int .i32) (.pair (.int .i32) (.int .u8))))]) : evFun G0 (fun f => olook f trie_Check_C) ⟨[], [], [], [], [], []⟩ (fun i => olook i trie_Check_L) Tryd.f9 [.sl (.st (.pair (.int .i32) (.pair (.int .i32) (.int .u8))))] [.v (.err 57 24)] x = trie_Check_T x.1 := by kernel_rfl
theorem trie_Check_ok : FunOk Tryd.prog 9 trie_Check_fun := evFun_ok mixed ctx0 (pc api_Wrap_ok (no_calls)) Tryd.func9 (by kernel_rfl) _ (fun x => congrArg Tr.run (trie_Check_ev x)) (by kernel_rfl) (by kernel_rfl)
/-! ### boustrophedon/api.Place -/
noncomputable def api_Place_F (x : Option (Int × ByteArray × Int)) : Option (ByteArray × Int) := some (match x with | none => (ByteArray.empty, 0) | some y => (y.2.1, y.2.2))
noncomputable def api_Place_fun : Fun := ⟨[.err 57 24], [.v .str, .v (.int .i64)], fun x => api_Place_F x.1⟩
theorem api_Place_ok : FunOk Tryd.prog 17 api_Place_fun := place_ok
/-! ### boustrophedon/api.Number -/
noncomputable def api_Number_F (x : Option (Int × ByteArray × Int)) : Option Int := some (match x with | none => 0 | some y => y.1)
noncomputable def api_Number_fun : Fun := ⟨[.err 57 24], [.v (.int .i64)], fun x => api_Number_F x.1⟩
theorem api_Number_ok : FunOk Tryd.prog 18 api_Number_fun := number_ok
/-! ### boustrophedon/boustrophedonlaw02.Told -/
noncomputable def law02_Told_T (e0 : Option (Int × ByteArray × Int)) (want1 : Int) (where2 : ByteArray) (at3 : Int) : Tr Bool :=
  .br (want1 == 0) (
    .pure e0.isNone) (
    .bnd (api_Place_F e0) fun c_1 =>
    .bnd (api_Number_F e0) fun c_2 =>
    .br (c_2 == want1) (
      .br (c_1.1.toList == where2.toList) (
        .pure (c_1.2 == at3)) (
        .pure false)) (
      .pure false))
noncomputable def law02_Told_F (e0 : Option (Int × ByteArray × Int)) (want1 : Int) (where2 : ByteArray) (at3 : Int) : Option Bool := (law02_Told_T e0 want1 where2 at3).run
def law02_Told_L : List (Nat × LoopAnn) := []
noncomputable def law02_Told_C : List (Nat × Callee) := [(17, .plain api_Place_fun), (18, .plain api_Number_fun)]
noncomputable def law02_Told_fun : Fun := ⟨[.err 57 24, .int .i64, .str, .int .i64], [.v .bool], fun x => law02_Told_F x.1 x.2.1 x.2.2.1 x.2.2.2.1⟩
theorem law02_Told_ev (x : Tys.I [.err 57 24, .int .i64, .str, .int .i64]) : evFun G0 (fun f => olook f law02_Told_C) ⟨[], [], [], [], [], []⟩ (fun i => olook i law02_Told_L) Tryd.f10 [.err 57 24, .int .i64, .str, .int .i64] [.v .bool] x = law02_Told_T x.1 x.2.1 x.2.2.1 x.2.2.2.1 := by kernel_rfl
theorem law02_Told_ok : FunOk Tryd.prog 10 law02_Told_fun := evFun_ok mixed ctx0 (pc api_Place_ok (pc api_Number_ok (no_calls))) Tryd.func10 (by kernel_rfl) _ (fun x => congrArg Tr.run (law02_Told_ev x)) (by kernel_rfl) (by kernel_rfl)
/-! ### (*boustrophedon/trie.Trie).Pages -/
noncomputable def trie_Trie_Pages_T (t0 : List Int × List Int) : Tr Int :=
  .pure (IntKind.i64.wrap ((t0.2.length : Int).tdiv 128))
noncomputable def trie_Trie_Pages_F (t0 : List Int × List Int) : Option Int := (trie_Trie_Pages_T t0).run
def trie_Trie_Pages_L : List (Nat × LoopAnn) := []
noncomputable def trie_Trie_Pages_C : List (Nat × Callee) := []
noncomputable def trie_Trie_Pages_fun : Fun := ⟨[.ptr (.st (.pair (.sl (.int .i64)) (.sl (.int .u8))))], [.v (.int .i64)], fun x => trie_Trie_Pages_F x.1⟩
theorem trie_Trie_Pages_ev (x : Tys.I [.ptr (.st (.pair (.sl (.int .i64)) (.sl (.int .u8))))]) : evFun G0 (fun f => olook f trie_Trie_Pages_C) ⟨[], [], [], [], [], []⟩ (fun i => olook i trie_Trie_Pages_L) Tryd.f15 [.ptr (.st (.pair (.sl (.int .i64)) (.sl (.int .u8))))] [.v (.int .i64)] x = trie_Trie_Pages_T x.1 := by kernel_rfl
theorem trie_Trie_Pages_ok : FunOk Tryd.prog 15 trie_Trie_Pages_fun := evFun_ok mixed ctx0 (no_calls) Tryd.func15 (by kernel_rfl) _ (fun x => congrArg Tr.run (trie_Trie_Pages_ev x)) (by kernel_rfl) (by kernel_rfl)
/-! ### boustrophedon/trie.flat -/
noncomputable def trie_flat_L3 (rs0 : List (Int × Int × Int)) (other1 : Int) (all5 : List Int) (t12 : Int) (t13 : Int) : Tr (Lap ((List (Int × Int × Int)) × Int × List Int × Int × Int) ((List (Int × Int × Int)) × List Int)) :=
  .br (decide (t13 < t12)) (
    .bnd (idx all5 t13) fun x_2 =>
    .pure (.next (rs0, other1, all5.set (Int.toNat t13) other1, t12, IntKind.i64.wrap (t13 + 1)))) (
    .pure (.done (rs0, all5)))
noncomputable def trie_flat_L11 (all5 : List Int) (r8 : Int × Int × Int) (i9 : Int) (t21 : List (Int × Int × Int)) (t22 : Int) (t23 : Int) : Tr (Lap (List Int × (Int × Int × Int) × Int × (List (Int × Int × Int)) × Int × Int) (List Int × (List (Int × Int × Int)) × Int × Int)) :=
  .bnd (idx ([r8]) 0) fun x_6 =>
  .br (decide (i9 ≤ x_6.2.1)) (
    .bnd (idx ([r8]) 0) fun x_7 =>
    .bnd (idx all5 i9) fun x_8 =>
    .pure (.next (all5.set (Int.toNat i9) x_7.2.2, r8, IntKind.i32.wrap (i9 + 1), t21, t22, t23))) (
    .pure (.done (all5, t21, t22, t23)))
noncomputable def trie_flat_L8 (all5 : List Int) (t21 : List (Int × Int × Int)) (t22 : Int) (t23 : Int) : Tr (Lap (List Int × (List (Int × Int × Int)) × Int × Int) (List Int)) :=
  .br (decide (t23 < t22)) (
    .bnd (idx t21 t23) fun x_4 =>
    .bnd (idx ([x_4]) 0) fun x_5 =>
    .bnd (loopW (fun s => (trie_flat_L11 s.1 s.2.1 s.2.2.1 s.2.2.2.1 s.2.2.2.2.1 s.2.2.2.2.2).run) (all5, x_4, x_5.1, t21, t22, t23)) fun l_9 =>
    .pure (.next (l_9.1, l_9.2.1, l_9.2.2.1, IntKind.i64.wrap (l_9.2.2.2 + 1)))) (
    .pure (.done all5))
noncomputable def trie_flat_T (rs0 : List (Int × Int × Int)) (other1 : Int) : Tr (List Int) :=
  .bnd (mk 140737488355328 0 1114112) fun r_1 =>
  .bnd (loopW (fun s => (trie_flat_L3 s.1 s.2.1 s.2.2.1 s.2.2.2.1 s.2.2.2.2).run) (rs0, other1, r_1, (r_1.length : Int), 0)) fun l_3 =>
  .bnd (loopW (fun s => (trie_flat_L8 s.1 s.2.1 s.2.2.1 s.2.2.2).run) (l_3.2, l_3.1, (l_3.1.length : Int), 0)) fun l_10 =>
  .pure l_10
noncomputable def trie_flat_F (rs0 : List (Int × Int × Int)) (other1 : Int) : Option (List Int) := (trie_flat_T rs0 other1).run
def trie_flat_L : List (Nat × LoopAnn) := [(3, { head := [.sv 0 false (.sl (.st (.pair (.int .i32) (.pair (.int .i32) (.int .u8))))), .sv 1 false (.int .u8), .srow 5 1000005 5 true (.int .u8), .sv 12 true (.int .i64), .sv 13 true (.int .i64)], xid := 0, out := [.sv 0 false (.sl (.st (.pair (.int .i32) (.pair (.int .i32) (.int .u8))))), .srow 5 1000005 5 true (.int .u8)], hasRet := false, res := [] }), (11, { head := [.srow 5 1000005 5 true (.int .u8), .sbox 8 1000008 40 true (.st (.pair (.int .i32) (.pair (.int .i32) (.int .u8)))), .sv 9 true (.int .i32), .sv 21 false (.sl (.st (.pair (.int .i32) (.pair (.int .i32) (.int .u8))))), .sv 22 true (.int .i64), .sv 23 true (.int .i64)], xid := 4, out := [.srow 5 1000005 5 true (.int .u8), .sv 21 false (.sl (.st (.pair (.int .i32) (.pair (.int .i32) (.int .u8))))), .sv 22 true (.int .i64), .sv 23 true (.int .i64)], hasRet := false, res := [] }), (8, { head := [.srow 5 1000005 5 true (.int .u8), .sv 21 false (.sl (.st (.pair (.int .i32) (.pair (.int .i32) (.int .u8))))), .sv 22 true (.int .i64), .sv 23 true (.int .i64)], xid := 2, out := [.srow 5 1000005 5 true (.int .u8)], hasRet := false, res := [] })]
noncomputable def trie_flat_C : List (Nat × Callee) := []
noncomputable def trie_flat_fun : Fun := ⟨[.sl (.st (.pair (.int .i32) (.pair (.int .i32) (.int .u8)))), .int .u8], [.row 5 (.int .u8)], fun x => trie_flat_F x.1 x.2.1⟩
theorem trie_flat_ev (x : Tys.I [.sl (.st (.pair (.int .i32) (.pair (.int .i32) (.int .u8)))), .int .u8]) : evFun G0 (fun f => olook f trie_flat_C) ⟨[], [], [], [], [], []⟩ (fun i => olook i trie_flat_L) Tryd.f19 [.sl (.st (.pair (.int .i32) (.pair (.int .i32) (.int .u8)))), .int .u8] [.row 5 (.int .u8)] x = trie_flat_T x.1 x.2.1 := by kernel_rfl
theorem trie_flat_ok : FunOk Tryd.prog 19 trie_flat_fun := evFun_ok mixed ctx0 (no_calls) Tryd.func19 (by kernel_rfl) _ (fun x => congrArg Tr.run (trie_flat_ev x)) (by kernel_rfl) (by kernel_rfl)
end Go.Proofs.YtemapfidlomkhaaDoor
