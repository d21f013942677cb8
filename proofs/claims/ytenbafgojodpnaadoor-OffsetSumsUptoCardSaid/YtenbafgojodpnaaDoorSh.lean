/-
  The plain readings of the functions of this seat, by program; each is tied to the loaded function.
-/
import Derived.Test.YtenbafgojodpnaaDoorEvTold2
import Derived.Test.YtenbafgojodpnaaDoorChecked
namespace Go.Proofs.YtenbafgojodpnaaDoor
set_option maxRecDepth 100000
set_option linter.unusedVariables false

def G0 : Ctx := { ty := [(3, .int .i64), (4, .bool), (5, .int .u8), (9, .str), (21, .int .i32), (22, .sl (.int .u8)), (24, .ptr (.st (.pair (.sl (.int .i64)) (.int .i64)))), (26, .sl (.int .i32)), (27, .sl (.int .i64)), (32, .err 68 36), (36, .int .i64), (54, .st (.pair (.sl (.int .i64)) (.int .i64))), (77, .int .u64)], sls := [(22, ⟨5, .int .u8, 140737488355328⟩), (26, ⟨21, .int .i32, 35184372088832⟩), (27, ⟨3, .int .i64, 17592186044416⟩)], eqs := [], enos := [36] }
theorem mixed : Tryd.prog.follows .mixedOrders = true := by kernel_rfl
theorem ctx0 : CtxOk Tryd.prog G0 := ctx_ok (by kernel_rfl)
theorem no_calls {Λ : List Nat} : ∀ f fa, olook f ([] : List (Nat × Callee)) = some fa → CalleeOk Tryd.prog f fa ∧ (fa.isPlain = false → inList f Λ = true) := fun _ _ h => by cases h
theorem cons_calls {Λ : List Nat} {k : Nat} {fb : Callee} {l : List (Nat × Callee)} (h : CalleeOk Tryd.prog k fb) (hi : fb.isPlain = false → inList k Λ = true) (hl : ∀ f fa, olook f l = some fa → CalleeOk Tryd.prog f fa ∧ (fa.isPlain = false → inList f Λ = true)) : ∀ f fa, olook f ((k, fb) :: l) = some fa → CalleeOk Tryd.prog f fa ∧ (fa.isPlain = false → inList f Λ = true) := by
  intro f fa hf
  rw [olook_cons] at hf
  split at hf
  · rename_i e; subst e; cases hf; exact ⟨h, hi⟩
  · exact hl f fa hf

/-! ### boustrophedon/utf.lead -/
noncomputable def utf_lead_T (b0 : Int) : Tr (Int × Int × Int) :=
  .br (decide (b0 < 128)) (
    .pure (1, 0, 0)) (
    .br (decide (b0 < 194)) (
      .pure (0, 0, 0)) (
      .br (decide (b0 < 224)) (
        .pure (2, 128, 191)) (
        .br (b0 == 224) (
          .pure (3, 160, 191)) (
          .br (b0 == 237) (
            .pure (3, 128, 159)) (
            .br (decide (b0 < 240)) (
              .pure (3, 128, 191)) (
              .br (b0 == 240) (
                .pure (4, 144, 191)) (
                .br (decide (b0 < 244)) (
                  .pure (4, 128, 191)) (
                  .br (b0 == 244) (
                    .pure (4, 128, 143)) (
                    .pure (0, 0, 0))))))))))
noncomputable def utf_lead_F (b0 : Int) : Option (Int × Int × Int) := (utf_lead_T b0).run
def utf_lead_L : List (Nat × LoopAnn) := []
noncomputable def utf_lead_C : List (Nat × Callee) := []
noncomputable def utf_lead_fun : Fun := ⟨[.int .u8], [.v (.int .i64), .v (.int .u8), .v (.int .u8)], fun x => utf_lead_F x.1⟩
theorem utf_lead_ev (x : Tys.I [.int .u8]) : evFun G0 (fun f => olook f utf_lead_C) ⟨[], [], [], [], [], []⟩ (fun i => olook i utf_lead_L) Tryd.f38 [.int .u8] [.v (.int .i64), .v (.int .u8), .v (.int .u8)] x = utf_lead_T x.1 := by kernel_rfl
theorem utf_lead_ok : FunOk Tryd.prog 38 utf_lead_fun := evFun_ok mixed ctx0 (no_calls) Tryd.func38 (by kernel_rfl) _ (fun x => congrArg Tr.run (utf_lead_ev x)) (by kernel_rfl) (by kernel_rfl)
/-! ### boustrophedon/utf.read -/
noncomputable def utf_read_L10 (b0 : List Int) (at1 : Int) (size7 : Int) (lo8 : Int) (hi9 : Int) (r10 : Int) (i11 : Int) : Tr (Lap (List Int × Int × Int × Int × Int × Int × Int) (Sum (Int × Int) (Int × Int × Bool))) :=
  .br (decide (i11 < size7)) (
    .br (decide (i11 ≥ (IntKind.i64.wrap ((b0.length : Int) - at1)))) (
      .pure (.done (.inr (65533, i11, false)))) (
      .bnd (idx b0 (IntKind.i64.wrap (at1 + i11))) fun x_5 =>
      .br (decide (x_5 < lo8)) (
        .pure (.done (.inr (65533, i11, false)))) (
        .bnd (idx b0 (IntKind.i64.wrap (at1 + i11))) fun x_6 =>
        .br (decide (x_6 > hi9)) (
          .pure (.done (.inr (65533, i11, false)))) (
          .bnd (idx b0 (IntKind.i64.wrap (at1 + i11))) fun x_7 =>
          .pure (.next (b0, at1, size7, 128, 191, ibits .or .i32 (shiftBy .shl .i32 r10 6) (IntKind.i32.wrap (ibits .and .u8 x_7 63)), IntKind.i64.wrap (i11 + 1))))))) (
    .pure (.done (.inl (size7, r10))))
noncomputable def utf_read_T (b0 : List Int) (at1 : Int) : Tr (Int × Int × Bool) :=
  .br (decide (at1 < 0)) (
    .pure (0, 0, false)) (
    .br (decide (at1 ≥ (b0.length : Int))) (
      .pure (0, 0, false)) (
      .bnd (idx b0 at1) fun x_1 =>
      .bnd (utf_lead_F x_1) fun c_2 =>
      .br (c_2.1 == 0) (
        .pure (65533, 1, false)) (
        .br (c_2.1 == 1) (
          .bnd (idx b0 at1) fun x_3 =>
          .pure (IntKind.i32.wrap x_3, 1, true)) (
          .bnd (idx b0 at1) fun x_4 =>
          .br (decide (0 ≤ c_2.1)) (
            .alt (loopW (fun s => (utf_read_L10 s.1 s.2.1 s.2.2.1 s.2.2.2.1 s.2.2.2.2.1 s.2.2.2.2.2.1 s.2.2.2.2.2.2).run) (b0, at1, c_2.1, c_2.2.1, c_2.2.2, IntKind.i32.wrap (ibits .and .u8 x_4 (shiftBy .shr .u8 127 c_2.1)), 1)) (fun l_8 =>
              .pure (l_8.2, l_8.1, true)) (fun l_9 =>
              .pure (l_9.1, l_9.2.1, l_9.2.2))) (
            .fail)))))
noncomputable def utf_read_F (b0 : List Int) (at1 : Int) : Option (Int × Int × Bool) := (utf_read_T b0 at1).run
def utf_read_L : List (Nat × LoopAnn) := [(10, { head := [.sv 0 false (.sl (.int .u8)), .sv 1 false (.int .i64), .sv 7 true (.int .i64), .sv 8 true (.int .u8), .sv 9 true (.int .u8), .sv 10 true (.int .i32), .sv 11 true (.int .i64)], xid := 0, out := [.sv 7 true (.int .i64), .sv 10 true (.int .i32)], hasRet := true, res := [.sv 4 true (.int .i32), .sv 5 true (.int .i64), .sv 6 true .bool] })]
noncomputable def utf_read_C : List (Nat × Callee) := [(38, .plain utf_lead_fun)]
noncomputable def utf_read_fun : Fun := ⟨[.sl (.int .u8), .int .i64], [.v (.int .i32), .v (.int .i64), .v .bool], fun x => utf_read_F x.1 x.2.1⟩
theorem utf_read_ev (x : Tys.I [.sl (.int .u8), .int .i64]) : evFun G0 (fun f => olook f utf_read_C) ⟨[], [], [], [], [], []⟩ (fun i => olook i utf_read_L) Tryd.f32 [.sl (.int .u8), .int .i64] [.v (.int .i32), .v (.int .i64), .v .bool] x = utf_read_T x.1 x.2.1 := by kernel_rfl
theorem utf_read_ok : FunOk Tryd.prog 32 utf_read_fun := evFun_ok mixed ctx0 (cons_calls (fb := .plain utf_lead_fun) utf_lead_ok (fun h => by cases h) (no_calls)) Tryd.func32 (by kernel_rfl) _ (fun x => congrArg Tr.run (utf_read_ev x)) (by kernel_rfl) (by kernel_rfl)
/-! ### boustrophedon/utf.Next -/
noncomputable def utf_Next_T (b0 : List Int) (at1 : Int) : Tr (Int × Int) :=
  .bnd (utf_read_F b0 at1) fun c_1 =>
  .pure (c_1.1, c_1.2.1)
noncomputable def utf_Next_F (b0 : List Int) (at1 : Int) : Option (Int × Int) := (utf_Next_T b0 at1).run
def utf_Next_L : List (Nat × LoopAnn) := []
noncomputable def utf_Next_C : List (Nat × Callee) := [(32, .plain utf_read_fun)]
noncomputable def utf_Next_fun : Fun := ⟨[.sl (.int .u8), .int .i64], [.v (.int .i32), .v (.int .i64)], fun x => utf_Next_F x.1 x.2.1⟩
theorem utf_Next_ev (x : Tys.I [.sl (.int .u8), .int .i64]) : evFun G0 (fun f => olook f utf_Next_C) ⟨[], [], [], [], [], []⟩ (fun i => olook i utf_Next_L) Tryd.f23 [.sl (.int .u8), .int .i64] [.v (.int .i32), .v (.int .i64)] x = utf_Next_T x.1 x.2.1 := by kernel_rfl
theorem utf_Next_ok : FunOk Tryd.prog 23 utf_Next_fun := evFun_ok mixed ctx0 (cons_calls (fb := .plain utf_read_fun) utf_read_ok (fun h => by cases h) (no_calls)) Tryd.func23 (by kernel_rfl) _ (fun x => congrArg Tr.run (utf_Next_ev x)) (by kernel_rfl) (by kernel_rfl)
/-! ### boustrophedon/utf.Decode -/
noncomputable def utf_Decode_L4 (b0 : List Int) (rs4 : List Int) (starts5 : List Int) (at6 : Int) : Tr (Lap (List Int × List Int × List Int × Int) (List Int × List Int)) :=
  .br (decide (at6 < (b0.length : Int))) (
    .bnd (utf_Next_F b0 at6) fun c_1 =>
    .bnd (app 35184372088832 rs4 ([c_1.1])) fun r_2 =>
    .bnd (app 17592186044416 starts5 ([at6])) fun r_3 =>
    .pure (.next (b0, r_2, r_3, IntKind.i64.wrap (at6 + c_1.2)))) (
    .pure (.done (rs4, starts5)))
noncomputable def utf_Decode_T (b0 : List Int) : Tr (List Int × List Int) :=
  .bnd (loopW (fun s => (utf_Decode_L4 s.1 s.2.1 s.2.2.1 s.2.2.2).run) (b0, [], [], 0)) fun l_4 =>
  .pure (l_4.1, l_4.2)
noncomputable def utf_Decode_F (b0 : List Int) : Option (List Int × List Int) := (utf_Decode_T b0).run
def utf_Decode_L : List (Nat × LoopAnn) := [(4, { head := [.sv 0 false (.sl (.int .u8)), .srow 4 1000004 21 true (.int .i32), .srow 5 1000005 3 true (.int .i64), .sv 6 true (.int .i64)], xid := 0, out := [.srow 4 1000004 21 true (.int .i32), .srow 5 1000005 3 true (.int .i64)], hasRet := false, res := [] })]
noncomputable def utf_Decode_C : List (Nat × Callee) := [(23, .plain utf_Next_fun)]
noncomputable def utf_Decode_fun : Fun := ⟨[.sl (.int .u8)], [.row 21 (.int .i32), .row 3 (.int .i64)], fun x => utf_Decode_F x.1⟩
theorem utf_Decode_ev (x : Tys.I [.sl (.int .u8)]) : evFun G0 (fun f => olook f utf_Decode_C) ⟨[], [], [], [], [], []⟩ (fun i => olook i utf_Decode_L) Tryd.f11 [.sl (.int .u8)] [.row 21 (.int .i32), .row 3 (.int .i64)] x = utf_Decode_T x.1 := by kernel_rfl
theorem utf_Decode_ok : FunOk Tryd.prog 11 utf_Decode_fun := evFun_ok mixed ctx0 (cons_calls (fb := .plain utf_Next_fun) utf_Next_ok (fun h => by cases h) (no_calls)) Tryd.func11 (by kernel_rfl) _ (fun x => congrArg Tr.run (utf_Decode_ev x)) (by kernel_rfl) (by kernel_rfl)
/-! ### boustrophedon/offset.Of -/
noncomputable def offset_Of_T (b0 : List Int) : Tr (List Int × Int) :=
  .bnd (utf_Decode_F b0) fun c_1 =>
  .pure (c_1.2, (b0.length : Int))
noncomputable def offset_Of_F (b0 : List Int) : Option (List Int × Int) := (offset_Of_T b0).run
def offset_Of_L : List (Nat × LoopAnn) := []
noncomputable def offset_Of_C : List (Nat × Callee) := [(11, .plain utf_Decode_fun)]
noncomputable def offset_Of_fun : Fun := ⟨[.sl (.int .u8)], [.v (.ptr (.st (.pair (.sl (.int .i64)) (.int .i64))))], fun x => offset_Of_F x.1⟩
theorem offset_Of_ev (x : Tys.I [.sl (.int .u8)]) : evFunP G0 (fun f => olook f offset_Of_C) ⟨[], [], [], [], [], [(13, [(0, 3)])]⟩ (fun i => olook i offset_Of_L) Tryd.f10 [.sl (.int .u8)] (.st (.pair (.sl (.int .i64)) (.int .i64))) [(0, 3)] x = offset_Of_T x.1 := by kernel_rfl
theorem offset_Of_ok : FunOk Tryd.prog 10 offset_Of_fun := evFunP_ok mixed ctx0 (cons_calls (fb := .plain utf_Decode_fun) utf_Decode_ok (fun h => by cases h) (no_calls)) Tryd.func10 (by kernel_rfl) _ (fun x => congrArg Tr.run (offset_Of_ev x)) (by kernel_rfl) (by kernel_rfl)
/-! ### (*boustrophedon/offset.Index).Count -/
noncomputable def offset_Index_Count_T (x0 : List Int × Int) : Tr Int :=
  .pure (x0.1.length : Int)
noncomputable def offset_Index_Count_F (x0 : List Int × Int) : Option Int := (offset_Index_Count_T x0).run
def offset_Index_Count_L : List (Nat × LoopAnn) := []
noncomputable def offset_Index_Count_C : List (Nat × Callee) := []
noncomputable def offset_Index_Count_fun : Fun := ⟨[.ptr (.st (.pair (.sl (.int .i64)) (.int .i64)))], [.v (.int .i64)], fun x => offset_Index_Count_F x.1⟩
theorem offset_Index_Count_ev (x : Tys.I [.ptr (.st (.pair (.sl (.int .i64)) (.int .i64)))]) : evFun G0 (fun f => olook f offset_Index_Count_C) ⟨[], [], [], [], [], []⟩ (fun i => olook i offset_Index_Count_L) Tryd.f12 [.ptr (.st (.pair (.sl (.int .i64)) (.int .i64)))] [.v (.int .i64)] x = offset_Index_Count_T x.1 := by kernel_rfl
theorem offset_Index_Count_ok : FunOk Tryd.prog 12 offset_Index_Count_fun := evFun_ok mixed ctx0 (no_calls) Tryd.func12 (by kernel_rfl) _ (fun x => congrArg Tr.run (offset_Index_Count_ev x)) (by kernel_rfl) (by kernel_rfl)
/-! ### boustrophedon/api.Wrap -/
noncomputable def api_Wrap_F (e : Int) (s : ByteArray) (n : Int) : Option (Option (Int × ByteArray × Int)) := some (some (e, s, n))
noncomputable def api_Wrap_fun : Fun := ⟨[.eno 36, .str, .int .i64], [.v (.err 68 36)], fun x => api_Wrap_F x.1 x.2.1 x.2.2.1⟩
theorem api_Wrap_ok : FunOk Tryd.prog 24 api_Wrap_fun := wrap_ok (tF := 70) ⟨_, _, Tryd.func24, by kernel_rfl, rfl⟩ (fun k n s w => by
  go_enter Tryd.func24, Tryd.ntmps24
  go_wp2
  go_ret
  exact ⟨rfl, rfl⟩)
/-! ### (*boustrophedon/offset.Index).Byte -/
noncomputable def offset_Index_Byte_T (x0 : List Int × Int) (scalar1 : Int) : Tr (Int × Option (Int × ByteArray × Int)) :=
  .br (decide (scalar1 < 0)) (
    .bnd (api_Wrap_F 6 (ByteArray.mk #[115, 99, 97, 108, 97, 114]) scalar1) fun c_1 =>
    .pure (0, c_1)) (
    .br (decide (scalar1 > (x0.1.length : Int))) (
      .bnd (api_Wrap_F 6 (ByteArray.mk #[115, 99, 97, 108, 97, 114]) scalar1) fun c_2 =>
      .pure (0, c_2)) (
      .br (scalar1 == (x0.1.length : Int)) (
        .pure (x0.2, none)) (
        .bnd (idx x0.1 scalar1) fun x_3 =>
        .pure (x_3, none))))
noncomputable def offset_Index_Byte_F (x0 : List Int × Int) (scalar1 : Int) : Option (Int × Option (Int × ByteArray × Int)) := (offset_Index_Byte_T x0 scalar1).run
def offset_Index_Byte_L : List (Nat × LoopAnn) := []
noncomputable def offset_Index_Byte_C : List (Nat × Callee) := [(24, .plain api_Wrap_fun)]
noncomputable def offset_Index_Byte_fun : Fun := ⟨[.ptr (.st (.pair (.sl (.int .i64)) (.int .i64))), .int .i64], [.v (.int .i64), .v (.err 68 36)], fun x => offset_Index_Byte_F x.1 x.2.1⟩
theorem offset_Index_Byte_ev (x : Tys.I [.ptr (.st (.pair (.sl (.int .i64)) (.int .i64))), .int .i64]) : evFun G0 (fun f => olook f offset_Index_Byte_C) ⟨[], [], [], [], [], []⟩ (fun i => olook i offset_Index_Byte_L) Tryd.f14 [.ptr (.st (.pair (.sl (.int .i64)) (.int .i64))), .int .i64] [.v (.int .i64), .v (.err 68 36)] x = offset_Index_Byte_T x.1 x.2.1 := by kernel_rfl
theorem offset_Index_Byte_ok : FunOk Tryd.prog 14 offset_Index_Byte_fun := evFun_ok mixed ctx0 (cons_calls (fb := .plain api_Wrap_fun) api_Wrap_ok (fun h => by cases h) (no_calls)) Tryd.func14 (by kernel_rfl) _ (fun x => congrArg Tr.run (offset_Index_Byte_ev x)) (by kernel_rfl) (by kernel_rfl)
/-! ### boustrophedon/api.Place -/
noncomputable def api_Place_F (x : Option (Int × ByteArray × Int)) : Option (ByteArray × Int) := some (match x with | none => (ByteArray.empty, 0) | some y => (y.2.1, y.2.2))
noncomputable def api_Place_fun : Fun := ⟨[.err 68 36], [.v .str, .v (.int .i64)], fun x => api_Place_F x.1⟩
theorem api_Place_ok : FunOk Tryd.prog 25 api_Place_fun := place_ok
/-! ### boustrophedon/api.Number -/
noncomputable def api_Number_F (x : Option (Int × ByteArray × Int)) : Option Int := some (match x with | none => 0 | some y => y.1)
noncomputable def api_Number_fun : Fun := ⟨[.err 68 36], [.v (.int .i64)], fun x => api_Number_F x.1⟩
theorem api_Number_ok : FunOk Tryd.prog 26 api_Number_fun := number_ok
/-! ### boustrophedon/boustrophedonlaw02.Told -/
noncomputable def law02_Told_T (e0 : Option (Int × ByteArray × Int)) (want1 : Int) (where2 : ByteArray) (at3 : Int) : Tr Bool :=
  .br (want1 == 0) (
    .pure e0.isNone) (
    .bnd (api_Place_F e0) fun c_1 =>
    .bnd (api_Number_F e0) fun c_2 =>
    .br (c_2 == want1) (
      .br (c_1.1.toList == where2.toList) (
        .pure (c_1.2 == at3)) (
        .pure false)) (
      .pure false))
noncomputable def law02_Told_F (e0 : Option (Int × ByteArray × Int)) (want1 : Int) (where2 : ByteArray) (at3 : Int) : Option Bool := (law02_Told_T e0 want1 where2 at3).run
def law02_Told_L : List (Nat × LoopAnn) := []
noncomputable def law02_Told_C : List (Nat × Callee) := [(25, .plain api_Place_fun), (26, .plain api_Number_fun)]
noncomputable def law02_Told_fun : Fun := ⟨[.err 68 36, .int .i64, .str, .int .i64], [.v .bool], fun x => law02_Told_F x.1 x.2.1 x.2.2.1 x.2.2.2.1⟩
theorem law02_Told_ev (x : Tys.I [.err 68 36, .int .i64, .str, .int .i64]) : evFun G0 (fun f => olook f law02_Told_C) ⟨[], [], [], [], [], []⟩ (fun i => olook i law02_Told_L) Tryd.f15 [.err 68 36, .int .i64, .str, .int .i64] [.v .bool] x = law02_Told_T x.1 x.2.1 x.2.2.1 x.2.2.2.1 := by kernel_rfl
theorem law02_Told_ok : FunOk Tryd.prog 15 law02_Told_fun := evFun_ok mixed ctx0 (cons_calls (fb := .plain api_Place_fun) api_Place_ok (fun h => by cases h) (cons_calls (fb := .plain api_Number_fun) api_Number_ok (fun h => by cases h) (no_calls))) Tryd.func15 (by kernel_rfl) _ (fun x => congrArg Tr.run (law02_Told_ev x)) (by kernel_rfl) (by kernel_rfl)
/-! ### sort.SearchInts$1 -/
noncomputable def sort_SearchInts_1_T (i0 : Int) (t1 : List Int) (t2 : Int) : Tr Bool :=
  .bnd (idx t1 i0) fun x_1 =>
  .pure (decide (x_1 ≥ t2))
noncomputable def sort_SearchInts_1_F (i0 : Int) (t1 : List Int) (t2 : Int) : Option Bool := (sort_SearchInts_1_T i0 t1 t2).run
def sort_SearchInts_1_L : List (Nat × LoopAnn) := []
noncomputable def sort_SearchInts_1_C : List (Nat × Callee) := []
noncomputable def sort_SearchInts_1_fun : Fun := ⟨[.int .i64, .ptr (.sl (.int .i64)), .ptr (.int .i64)], [.v .bool], fun x => sort_SearchInts_1_F x.1 x.2.1 x.2.2.1⟩
theorem sort_SearchInts_1_ev (x : Tys.I [.int .i64, .ptr (.sl (.int .i64)), .ptr (.int .i64)]) : evFun G0 (fun f => olook f sort_SearchInts_1_C) ⟨[], [], [], [], [], []⟩ (fun i => olook i sort_SearchInts_1_L) Tryd.f35 [.int .i64, .ptr (.sl (.int .i64)), .ptr (.int .i64)] [.v .bool] x = sort_SearchInts_1_T x.1 x.2.1 x.2.2.1 := by kernel_rfl
theorem sort_SearchInts_1_ok : FunOk Tryd.prog 35 sort_SearchInts_1_fun := evFun_ok mixed ctx0 (no_calls) Tryd.func35 (by kernel_rfl) _ (fun x => congrArg Tr.run (sort_SearchInts_1_ev x)) (by kernel_rfl) (by kernel_rfl)
/-! ### sort.Search -/
noncomputable def sort_Search_L2 (f1 : List Int × Int) (i5 : Int) (j6 : Int) : Tr (Lap ((List Int × Int) × Int × Int) Int) :=
  .br (decide (i5 < j6)) (
    .bnd (sort_SearchInts_1_F (IntKind.i64.wrap (shiftBy .shr .u64 (IntKind.u64.wrap (IntKind.i64.wrap (i5 + j6))) 1)) f1.1 f1.2) fun c_1 =>
    .br (!c_1) (
      .pure (.next (f1, IntKind.i64.wrap ((IntKind.i64.wrap (shiftBy .shr .u64 (IntKind.u64.wrap (IntKind.i64.wrap (i5 + j6))) 1)) + 1), j6))) (
      .pure (.next (f1, i5, IntKind.i64.wrap (shiftBy .shr .u64 (IntKind.u64.wrap (IntKind.i64.wrap (i5 + j6))) 1))))) (
    .pure (.done i5))
noncomputable def sort_Search_T (n0 : Int) (f1 : List Int × Int) : Tr Int :=
  .bnd (loopW (fun s => (sort_Search_L2 s.1 s.2.1 s.2.2).run) (f1, 0, n0)) fun l_2 =>
  .pure l_2
noncomputable def sort_Search_F (n0 : Int) (f1 : List Int × Int) : Option Int := (sort_Search_T n0 f1).run
def sort_Search_L : List (Nat × LoopAnn) := [(2, { head := [.sv 1 false (.fn 35 (.pair (.ptr (.sl (.int .i64))) (.ptr (.int .i64)))), .sv 5 true (.int .i64), .sv 6 false (.int .i64)], xid := 0, out := [.sv 5 true (.int .i64)], hasRet := false, res := [] })]
noncomputable def sort_Search_C : List (Nat × Callee) := [(35, .plain sort_SearchInts_1_fun)]
noncomputable def sort_Search_fun : Fun := ⟨[.int .i64, .fn 35 (.pair (.ptr (.sl (.int .i64))) (.ptr (.int .i64)))], [.v (.int .i64)], fun x => sort_Search_F x.1 x.2.1⟩
theorem sort_Search_ev (x : Tys.I [.int .i64, .fn 35 (.pair (.ptr (.sl (.int .i64))) (.ptr (.int .i64)))]) : evFun G0 (fun f => olook f sort_Search_C) ⟨[], [], [], [], [], []⟩ (fun i => olook i sort_Search_L) Tryd.f34 [.int .i64, .fn 35 (.pair (.ptr (.sl (.int .i64))) (.ptr (.int .i64)))] [.v (.int .i64)] x = sort_Search_T x.1 x.2.1 := by kernel_rfl
theorem sort_Search_ok : FunOk Tryd.prog 34 sort_Search_fun := evFun_ok mixed ctx0 (cons_calls (fb := .plain sort_SearchInts_1_fun) sort_SearchInts_1_ok (fun h => by cases h) (no_calls)) Tryd.func34 (by kernel_rfl) _ (fun x => congrArg Tr.run (sort_Search_ev x)) (by kernel_rfl) (by kernel_rfl)
/-! ### sort.SearchInts -/
noncomputable def sort_SearchInts_T (a0 : List Int) (x1 : Int) : Tr Int :=
  .bnd (sort_Search_F (a0.length : Int) (a0, x1)) fun c_1 =>
  .pure c_1
noncomputable def sort_SearchInts_F (a0 : List Int) (x1 : Int) : Option Int := (sort_SearchInts_T a0 x1).run
def sort_SearchInts_L : List (Nat × LoopAnn) := []
noncomputable def sort_SearchInts_C : List (Nat × Callee) := [(34, .plain sort_Search_fun)]
noncomputable def sort_SearchInts_fun : Fun := ⟨[.sl (.int .i64), .int .i64], [.v (.int .i64)], fun x => sort_SearchInts_F x.1 x.2.1⟩
theorem sort_SearchInts_ev (x : Tys.I [.sl (.int .i64), .int .i64]) : evFun G0 (fun f => olook f sort_SearchInts_C) ⟨[], [], [], [], [], []⟩ (fun i => olook i sort_SearchInts_L) Tryd.f27 [.sl (.int .i64), .int .i64] [.v (.int .i64)] x = sort_SearchInts_T x.1 x.2.1 := by kernel_rfl
theorem sort_SearchInts_ok : FunOk Tryd.prog 27 sort_SearchInts_fun := evFun_ok mixed ctx0 (cons_calls (fb := .plain sort_Search_fun) sort_Search_ok (fun h => by cases h) (no_calls)) Tryd.func27 (by kernel_rfl) _ (fun x => congrArg Tr.run (sort_SearchInts_ev x)) (by kernel_rfl) (by kernel_rfl)
/-! ### (*boustrophedon/offset.Index).Scalar -/
noncomputable def offset_Index_Scalar_T (x0 : List Int × Int) (at1 : Int) : Tr (Int × Option (Int × ByteArray × Int)) :=
  .br (decide (at1 < 0)) (
    .bnd (api_Wrap_F 6 (ByteArray.mk #[98, 121, 116, 101]) at1) fun c_1 =>
    .pure (0, c_1)) (
    .br (decide (at1 > x0.2)) (
      .bnd (api_Wrap_F 6 (ByteArray.mk #[98, 121, 116, 101]) at1) fun c_2 =>
      .pure (0, c_2)) (
      .br (at1 == x0.2) (
        .pure ((x0.1.length : Int), none)) (
        .bnd (sort_SearchInts_F x0.1 (IntKind.i64.wrap (at1 + 1))) fun c_3 =>
        .pure (IntKind.i64.wrap (c_3 - 1), none))))
noncomputable def offset_Index_Scalar_F (x0 : List Int × Int) (at1 : Int) : Option (Int × Option (Int × ByteArray × Int)) := (offset_Index_Scalar_T x0 at1).run
def offset_Index_Scalar_L : List (Nat × LoopAnn) := []
noncomputable def offset_Index_Scalar_C : List (Nat × Callee) := [(24, .plain api_Wrap_fun), (27, .plain sort_SearchInts_fun)]
noncomputable def offset_Index_Scalar_fun : Fun := ⟨[.ptr (.st (.pair (.sl (.int .i64)) (.int .i64))), .int .i64], [.v (.int .i64), .v (.err 68 36)], fun x => offset_Index_Scalar_F x.1 x.2.1⟩
theorem offset_Index_Scalar_ev (x : Tys.I [.ptr (.st (.pair (.sl (.int .i64)) (.int .i64))), .int .i64]) : evFun G0 (fun f => olook f offset_Index_Scalar_C) ⟨[], [], [], [], [], []⟩ (fun i => olook i offset_Index_Scalar_L) Tryd.f16 [.ptr (.st (.pair (.sl (.int .i64)) (.int .i64))), .int .i64] [.v (.int .i64), .v (.err 68 36)] x = offset_Index_Scalar_T x.1 x.2.1 := by kernel_rfl
theorem offset_Index_Scalar_ok : FunOk Tryd.prog 16 offset_Index_Scalar_fun := evFun_ok mixed ctx0 (cons_calls (fb := .plain api_Wrap_fun) api_Wrap_ok (fun h => by cases h) (cons_calls (fb := .plain sort_SearchInts_fun) sort_SearchInts_ok (fun h => by cases h) (no_calls))) Tryd.func16 (by kernel_rfl) _ (fun x => congrArg Tr.run (offset_Index_Scalar_ev x)) (by kernel_rfl) (by kernel_rfl)
/-! ### boustrophedon/boustrophedonlaw02.awake -/
noncomputable def law02_awake_T : Tr Bool :=
  .bnd (offset_Of_F ([97, 195, 169, 255])) fun c_1 =>
  .bnd (offset_Index_Byte_F c_1 2) fun c_2 =>
  .bnd (offset_Index_Scalar_F c_1 2) fun c_3 =>
  .bnd (offset_Index_Scalar_F c_1 4) fun c_4 =>
  .bnd (offset_Index_Byte_F c_1 4) fun c_5 =>
  .bnd (offset_Index_Count_F c_1) fun c_6 =>
  .br (c_6 == 3) (
    .br (c_2.1 == 3) (
      .br c_2.2.isNone (
        .br (c_3.1 == 1) (
          .br c_3.2.isNone (
            .br (c_4.1 == 3) (
              .br c_4.2.isNone (
                .bnd (law02_Told_F c_5.2 6 (ByteArray.mk #[115, 99, 97, 108, 97, 114]) 4) fun c_7 =>
                .pure c_7) (
                .pure false)) (
              .pure false)) (
            .pure false)) (
          .pure false)) (
        .pure false)) (
      .pure false)) (
    .pure false)
noncomputable def law02_awake_F : Option Bool := (law02_awake_T).run
def law02_awake_L : List (Nat × LoopAnn) := []
noncomputable def law02_awake_C : List (Nat × Callee) := [(10, .plain offset_Of_fun), (14, .plain offset_Index_Byte_fun), (16, .plain offset_Index_Scalar_fun), (12, .plain offset_Index_Count_fun), (15, .plain law02_Told_fun)]
noncomputable def law02_awake_fun : Fun := ⟨[], [.v .bool], fun _ => law02_awake_F⟩
theorem law02_awake_ev (x : Tys.I []) : evFun G0 (fun f => olook f law02_awake_C) ⟨[], [], [], [], [], []⟩ (fun i => olook i law02_awake_L) Tryd.f9 [] [.v .bool] x = law02_awake_T := by kernel_rfl
theorem law02_awake_ok : FunOk Tryd.prog 9 law02_awake_fun := evFun_ok mixed ctx0 (cons_calls (fb := .plain offset_Of_fun) offset_Of_ok (fun h => by cases h) (cons_calls (fb := .plain offset_Index_Byte_fun) offset_Index_Byte_ok (fun h => by cases h) (cons_calls (fb := .plain offset_Index_Scalar_fun) offset_Index_Scalar_ok (fun h => by cases h) (cons_calls (fb := .plain offset_Index_Count_fun) offset_Index_Count_ok (fun h => by cases h) (cons_calls (fb := .plain law02_Told_fun) law02_Told_ok (fun h => by cases h) (no_calls)))))) Tryd.func9 (by kernel_rfl) _ (fun x => congrArg Tr.run (law02_awake_ev x)) (by kernel_rfl) (by kernel_rfl)
/-! ### (*boustrophedon/offset.Index).Size -/
noncomputable def offset_Index_Size_T (x0 : List Int × Int) : Tr Int :=
  .pure x0.2
noncomputable def offset_Index_Size_F (x0 : List Int × Int) : Option Int := (offset_Index_Size_T x0).run
def offset_Index_Size_L : List (Nat × LoopAnn) := []
noncomputable def offset_Index_Size_C : List (Nat × Callee) := []
noncomputable def offset_Index_Size_fun : Fun := ⟨[.ptr (.st (.pair (.sl (.int .i64)) (.int .i64)))], [.v (.int .i64)], fun x => offset_Index_Size_F x.1⟩
theorem offset_Index_Size_ev (x : Tys.I [.ptr (.st (.pair (.sl (.int .i64)) (.int .i64)))]) : evFun G0 (fun f => olook f offset_Index_Size_C) ⟨[], [], [], [], [], []⟩ (fun i => olook i offset_Index_Size_L) Tryd.f13 [.ptr (.st (.pair (.sl (.int .i64)) (.int .i64)))] [.v (.int .i64)] x = offset_Index_Size_T x.1 := by kernel_rfl
theorem offset_Index_Size_ok : FunOk Tryd.prog 13 offset_Index_Size_fun := evFun_ok mixed ctx0 (no_calls) Tryd.func13 (by kernel_rfl) _ (fun x => congrArg Tr.run (offset_Index_Size_ev x)) (by kernel_rfl) (by kernel_rfl)
/-! ### boustrophedon/boustrophedonlaw02.OffsetPlaces -/
noncomputable def law02_OffsetPlaces_L18 (b0 : List Int) (at2 : Int) (rs8 : List Int) (starts9 : List Int) (s12 : Int) (f13 : Option (Int × ByteArray × Int)) (want14 : Int) (k15 : Int) : Tr (Lap (List Int × Int × List Int × List Int × Int × (Option (Int × ByteArray × Int)) × Int × Int) (Int × (Option (Int × ByteArray × Int)) × Int)) :=
  .br (decide (k15 < (rs8.length : Int))) (
    .bnd (idx starts9 k15) fun x_11 =>
    .br (decide (x_11 ≤ at2)) (
      .br (decide (at2 < (b0.length : Int))) (
        .pure (.next (b0, at2, rs8, starts9, s12, f13, k15, IntKind.i64.wrap (k15 + 1)))) (
        .pure (.next (b0, at2, rs8, starts9, s12, f13, want14, IntKind.i64.wrap (k15 + 1))))) (
      .pure (.next (b0, at2, rs8, starts9, s12, f13, want14, IntKind.i64.wrap (k15 + 1))))) (
    .pure (.done (s12, f13, want14)))
noncomputable def law02_OffsetPlaces_T (b0 : List Int) (scalar1 : Int) (at2 : Int) : Tr Bool :=
  .bnd law02_awake_F fun c_1 =>
  .br (!c_1) (
    .pure false) (
    .bnd (offset_Of_F b0) fun c_2 =>
    .bnd (utf_Decode_F b0) fun c_3 =>
    .bnd (offset_Index_Count_F c_2) fun c_4 =>
    .br (c_4 != (c_3.1.length : Int)) (
      .pure false) (
      .bnd (offset_Index_Size_F c_2) fun c_5 =>
      .br (c_5 != (b0.length : Int)) (
        .pure false) (
        .bnd (offset_Index_Byte_F c_2 scalar1) fun c_6 =>
        .br (decide (scalar1 < 0)) (
          .bnd (law02_Told_F c_6.2 6 (ByteArray.mk #[115, 99, 97, 108, 97, 114]) scalar1) fun c_7 =>
          .br (!c_7) (
            .pure false) (
            .br (c_6.1 != 0) (
              .pure false) (
              .bnd (offset_Index_Scalar_F c_2 at2) fun c_8 =>
              .br (decide (at2 < 0)) (
                .bnd (law02_Told_F c_8.2 6 (ByteArray.mk #[98, 121, 116, 101]) at2) fun c_9 =>
                .br c_9 (
                  .pure (c_8.1 == 0)) (
                  .pure false)) (
                .br (decide (at2 > (b0.length : Int))) (
                  .bnd (law02_Told_F c_8.2 6 (ByteArray.mk #[98, 121, 116, 101]) at2) fun c_10 =>
                  .br c_10 (
                    .pure (c_8.1 == 0)) (
                    .pure false)) (
                  .bnd (loopW (fun s => (law02_OffsetPlaces_L18 s.1 s.2.1 s.2.2.1 s.2.2.2.1 s.2.2.2.2.1 s.2.2.2.2.2.1 s.2.2.2.2.2.2.1 s.2.2.2.2.2.2.2).run) (b0, at2, c_3.1, c_3.2, c_8.1, c_8.2, (c_3.1.length : Int), 0)) fun l_12 =>
                  .br l_12.2.1.isNone (
                    .pure (l_12.1 == l_12.2.2)) (
                    .pure false)))))) (
          .br (decide (scalar1 > (c_3.1.length : Int))) (
            .bnd (law02_Told_F c_6.2 6 (ByteArray.mk #[115, 99, 97, 108, 97, 114]) scalar1) fun c_13 =>
            .br (!c_13) (
              .pure false) (
              .br (c_6.1 != 0) (
                .pure false) (
                .bnd (offset_Index_Scalar_F c_2 at2) fun c_14 =>
                .br (decide (at2 < 0)) (
                  .bnd (law02_Told_F c_14.2 6 (ByteArray.mk #[98, 121, 116, 101]) at2) fun c_15 =>
                  .br c_15 (
                    .pure (c_14.1 == 0)) (
                    .pure false)) (
                  .br (decide (at2 > (b0.length : Int))) (
                    .bnd (law02_Told_F c_14.2 6 (ByteArray.mk #[98, 121, 116, 101]) at2) fun c_16 =>
                    .br c_16 (
                      .pure (c_14.1 == 0)) (
                      .pure false)) (
                    .bnd (loopW (fun s => (law02_OffsetPlaces_L18 s.1 s.2.1 s.2.2.1 s.2.2.2.1 s.2.2.2.2.1 s.2.2.2.2.2.1 s.2.2.2.2.2.2.1 s.2.2.2.2.2.2.2).run) (b0, at2, c_3.1, c_3.2, c_14.1, c_14.2, (c_3.1.length : Int), 0)) fun l_17 =>
                    .br l_17.2.1.isNone (
                      .pure (l_17.1 == l_17.2.2)) (
                      .pure false)))))) (
            .br c_6.2.isSome (
              .pure false) (
              .br (decide (scalar1 < (c_3.1.length : Int))) (
                .bnd (idx c_3.2 scalar1) fun x_18 =>
                .br (c_6.1 != x_18) (
                  .pure false) (
                  .br (scalar1 == (c_3.1.length : Int)) (
                    .br (c_6.1 != (b0.length : Int)) (
                      .pure false) (
                      .bnd (offset_Index_Scalar_F c_2 at2) fun c_19 =>
                      .br (decide (at2 < 0)) (
                        .bnd (law02_Told_F c_19.2 6 (ByteArray.mk #[98, 121, 116, 101]) at2) fun c_20 =>
                        .br c_20 (
                          .pure (c_19.1 == 0)) (
                          .pure false)) (
                        .br (decide (at2 > (b0.length : Int))) (
                          .bnd (law02_Told_F c_19.2 6 (ByteArray.mk #[98, 121, 116, 101]) at2) fun c_21 =>
                          .br c_21 (
                            .pure (c_19.1 == 0)) (
                            .pure false)) (
                          .bnd (loopW (fun s => (law02_OffsetPlaces_L18 s.1 s.2.1 s.2.2.1 s.2.2.2.1 s.2.2.2.2.1 s.2.2.2.2.2.1 s.2.2.2.2.2.2.1 s.2.2.2.2.2.2.2).run) (b0, at2, c_3.1, c_3.2, c_19.1, c_19.2, (c_3.1.length : Int), 0)) fun l_22 =>
                          .br l_22.2.1.isNone (
                            .pure (l_22.1 == l_22.2.2)) (
                            .pure false))))) (
                    .bnd (offset_Index_Scalar_F c_2 at2) fun c_23 =>
                    .br (decide (at2 < 0)) (
                      .bnd (law02_Told_F c_23.2 6 (ByteArray.mk #[98, 121, 116, 101]) at2) fun c_24 =>
                      .br c_24 (
                        .pure (c_23.1 == 0)) (
                        .pure false)) (
                      .br (decide (at2 > (b0.length : Int))) (
                        .bnd (law02_Told_F c_23.2 6 (ByteArray.mk #[98, 121, 116, 101]) at2) fun c_25 =>
                        .br c_25 (
                          .pure (c_23.1 == 0)) (
                          .pure false)) (
                        .bnd (loopW (fun s => (law02_OffsetPlaces_L18 s.1 s.2.1 s.2.2.1 s.2.2.2.1 s.2.2.2.2.1 s.2.2.2.2.2.1 s.2.2.2.2.2.2.1 s.2.2.2.2.2.2.2).run) (b0, at2, c_3.1, c_3.2, c_23.1, c_23.2, (c_3.1.length : Int), 0)) fun l_26 =>
                        .br l_26.2.1.isNone (
                          .pure (l_26.1 == l_26.2.2)) (
                          .pure false)))))) (
                .br (scalar1 == (c_3.1.length : Int)) (
                  .br (c_6.1 != (b0.length : Int)) (
                    .pure false) (
                    .bnd (offset_Index_Scalar_F c_2 at2) fun c_27 =>
                    .br (decide (at2 < 0)) (
                      .bnd (law02_Told_F c_27.2 6 (ByteArray.mk #[98, 121, 116, 101]) at2) fun c_28 =>
                      .br c_28 (
                        .pure (c_27.1 == 0)) (
                        .pure false)) (
                      .br (decide (at2 > (b0.length : Int))) (
                        .bnd (law02_Told_F c_27.2 6 (ByteArray.mk #[98, 121, 116, 101]) at2) fun c_29 =>
                        .br c_29 (
                          .pure (c_27.1 == 0)) (
                          .pure false)) (
                        .bnd (loopW (fun s => (law02_OffsetPlaces_L18 s.1 s.2.1 s.2.2.1 s.2.2.2.1 s.2.2.2.2.1 s.2.2.2.2.2.1 s.2.2.2.2.2.2.1 s.2.2.2.2.2.2.2).run) (b0, at2, c_3.1, c_3.2, c_27.1, c_27.2, (c_3.1.length : Int), 0)) fun l_30 =>
                        .br l_30.2.1.isNone (
                          .pure (l_30.1 == l_30.2.2)) (
                          .pure false))))) (
                  .bnd (offset_Index_Scalar_F c_2 at2) fun c_31 =>
                  .br (decide (at2 < 0)) (
                    .bnd (law02_Told_F c_31.2 6 (ByteArray.mk #[98, 121, 116, 101]) at2) fun c_32 =>
                    .br c_32 (
                      .pure (c_31.1 == 0)) (
                      .pure false)) (
                    .br (decide (at2 > (b0.length : Int))) (
                      .bnd (law02_Told_F c_31.2 6 (ByteArray.mk #[98, 121, 116, 101]) at2) fun c_33 =>
                      .br c_33 (
                        .pure (c_31.1 == 0)) (
                        .pure false)) (
                      .bnd (loopW (fun s => (law02_OffsetPlaces_L18 s.1 s.2.1 s.2.2.1 s.2.2.2.1 s.2.2.2.2.1 s.2.2.2.2.2.1 s.2.2.2.2.2.2.1 s.2.2.2.2.2.2.2).run) (b0, at2, c_3.1, c_3.2, c_31.1, c_31.2, (c_3.1.length : Int), 0)) fun l_34 =>
                      .br l_34.2.1.isNone (
                        .pure (l_34.1 == l_34.2.2)) (
                        .pure false)))))))))))
noncomputable def law02_OffsetPlaces_F (b0 : List Int) (scalar1 : Int) (at2 : Int) : Option Bool := (law02_OffsetPlaces_T b0 scalar1 at2).run
def law02_OffsetPlaces_L : List (Nat × LoopAnn) := [(18, { head := [.sv 0 false (.sl (.int .u8)), .sv 2 false (.int .i64), .srow 8 1000008 21 true (.int .i32), .srow 9 1000009 3 true (.int .i64), .sv 12 true (.int .i64), .sv 13 true (.err 68 36), .sv 14 true (.int .i64), .sv 15 true (.int .i64)], xid := 0, out := [.sv 12 true (.int .i64), .sv 13 true (.err 68 36), .sv 14 true (.int .i64)], hasRet := false, res := [] })]
noncomputable def law02_OffsetPlaces_C : List (Nat × Callee) := [(9, .plain law02_awake_fun), (10, .plain offset_Of_fun), (11, .plain utf_Decode_fun), (12, .plain offset_Index_Count_fun), (13, .plain offset_Index_Size_fun), (14, .plain offset_Index_Byte_fun), (15, .plain law02_Told_fun), (16, .plain offset_Index_Scalar_fun)]
noncomputable def law02_OffsetPlaces_fun : Fun := ⟨[.sl (.int .u8), .int .i64, .int .i64], [.v .bool], fun x => law02_OffsetPlaces_F x.1 x.2.1 x.2.2.1⟩
theorem law02_OffsetPlaces_ev (x : Tys.I [.sl (.int .u8), .int .i64, .int .i64]) : evFun G0 (fun f => olook f law02_OffsetPlaces_C) ⟨[], [], [], [], [], []⟩ (fun i => olook i law02_OffsetPlaces_L) Tryd.f3 [.sl (.int .u8), .int .i64, .int .i64] [.v .bool] x = law02_OffsetPlaces_T x.1 x.2.1 x.2.2.1 := by kernel_rfl
theorem law02_OffsetPlaces_ok : FunOk Tryd.prog 3 law02_OffsetPlaces_fun := evFun_ok mixed ctx0 (cons_calls (fb := .plain law02_awake_fun) law02_awake_ok (fun h => by cases h) (cons_calls (fb := .plain offset_Of_fun) offset_Of_ok (fun h => by cases h) (cons_calls (fb := .plain utf_Decode_fun) utf_Decode_ok (fun h => by cases h) (cons_calls (fb := .plain offset_Index_Count_fun) offset_Index_Count_ok (fun h => by cases h) (cons_calls (fb := .plain offset_Index_Size_fun) offset_Index_Size_ok (fun h => by cases h) (cons_calls (fb := .plain offset_Index_Byte_fun) offset_Index_Byte_ok (fun h => by cases h) (cons_calls (fb := .plain law02_Told_fun) law02_Told_ok (fun h => by cases h) (cons_calls (fb := .plain offset_Index_Scalar_fun) offset_Index_Scalar_ok (fun h => by cases h) (no_calls))))))))) Tryd.func3 (by kernel_rfl) _ (fun x => congrArg Tr.run (law02_OffsetPlaces_ev x)) (by kernel_rfl) (by kernel_rfl)
/-! ### (*boustrophedon/offset.Index).Span -/
noncomputable def offset_Index_Span_T (x0 : List Int × Int) (from1 : Int) (to2 : Int) : Tr (Int × Int × Option (Int × ByteArray × Int)) :=
  .bnd (offset_Index_Byte_F x0 from1) fun c_1 =>
  .br c_1.2.isSome (
    .pure (0, 0, c_1.2)) (
    .bnd (offset_Index_Byte_F x0 to2) fun c_2 =>
    .br c_2.2.isSome (
      .pure (0, 0, c_2.2)) (
      .br (decide (to2 < from1)) (
        .bnd (api_Wrap_F 5 (ByteArray.mk #[115, 99, 97, 108, 97, 114]) to2) fun c_3 =>
        .pure (0, 0, c_3)) (
        .pure (c_1.1, c_2.1, none))))
noncomputable def offset_Index_Span_F (x0 : List Int × Int) (from1 : Int) (to2 : Int) : Option (Int × Int × Option (Int × ByteArray × Int)) := (offset_Index_Span_T x0 from1 to2).run
def offset_Index_Span_L : List (Nat × LoopAnn) := []
noncomputable def offset_Index_Span_C : List (Nat × Callee) := [(14, .plain offset_Index_Byte_fun), (24, .plain api_Wrap_fun)]
noncomputable def offset_Index_Span_fun : Fun := ⟨[.ptr (.st (.pair (.sl (.int .i64)) (.int .i64))), .int .i64, .int .i64], [.v (.int .i64), .v (.int .i64), .v (.err 68 36)], fun x => offset_Index_Span_F x.1 x.2.1 x.2.2.1⟩
theorem offset_Index_Span_ev (x : Tys.I [.ptr (.st (.pair (.sl (.int .i64)) (.int .i64))), .int .i64, .int .i64]) : evFun G0 (fun f => olook f offset_Index_Span_C) ⟨[], [], [], [], [], []⟩ (fun i => olook i offset_Index_Span_L) Tryd.f17 [.ptr (.st (.pair (.sl (.int .i64)) (.int .i64))), .int .i64, .int .i64] [.v (.int .i64), .v (.int .i64), .v (.err 68 36)] x = offset_Index_Span_T x.1 x.2.1 x.2.2.1 := by kernel_rfl
theorem offset_Index_Span_ok : FunOk Tryd.prog 17 offset_Index_Span_fun := evFun_ok mixed ctx0 (cons_calls (fb := .plain offset_Index_Byte_fun) offset_Index_Byte_ok (fun h => by cases h) (cons_calls (fb := .plain api_Wrap_fun) api_Wrap_ok (fun h => by cases h) (no_calls))) Tryd.func17 (by kernel_rfl) _ (fun x => congrArg Tr.run (offset_Index_Span_ev x)) (by kernel_rfl) (by kernel_rfl)
/-! ### boustrophedon/boustrophedonlaw02.OffsetSpans -/
noncomputable def law02_OffsetSpans_T (b0 : List Int) (from1 : Int) (to2 : Int) : Tr Bool :=
  .bnd law02_awake_F fun c_1 =>
  .br (!c_1) (
    .pure false) (
    .bnd (offset_Of_F b0) fun c_2 =>
    .bnd (offset_Index_Span_F c_2 from1 to2) fun c_3 =>
    .bnd (offset_Index_Byte_F c_2 from1) fun c_4 =>
    .bnd (offset_Index_Byte_F c_2 to2) fun c_5 =>
    .br c_4.2.isSome (
      .bnd (law02_Told_F c_3.2.2 6 (ByteArray.mk #[115, 99, 97, 108, 97, 114]) from1) fun c_6 =>
      .br c_6 (
        .br (c_3.1 == 0) (
          .pure (c_3.2.1 == 0)) (
          .pure false)) (
        .pure false)) (
      .br c_5.2.isSome (
        .bnd (law02_Told_F c_3.2.2 6 (ByteArray.mk #[115, 99, 97, 108, 97, 114]) to2) fun c_7 =>
        .br c_7 (
          .br (c_3.1 == 0) (
            .pure (c_3.2.1 == 0)) (
            .pure false)) (
          .pure false)) (
        .br (decide (to2 < from1)) (
          .bnd (law02_Told_F c_3.2.2 5 (ByteArray.mk #[115, 99, 97, 108, 97, 114]) to2) fun c_8 =>
          .br c_8 (
            .br (c_3.1 == 0) (
              .pure (c_3.2.1 == 0)) (
              .pure false)) (
            .pure false)) (
          .br c_3.2.2.isNone (
            .br (c_3.1 == c_4.1) (
              .pure (c_3.2.1 == c_5.1)) (
              .pure false)) (
            .pure false)))))
noncomputable def law02_OffsetSpans_F (b0 : List Int) (from1 : Int) (to2 : Int) : Option Bool := (law02_OffsetSpans_T b0 from1 to2).run
def law02_OffsetSpans_L : List (Nat × LoopAnn) := []
noncomputable def law02_OffsetSpans_C : List (Nat × Callee) := [(9, .plain law02_awake_fun), (10, .plain offset_Of_fun), (17, .plain offset_Index_Span_fun), (14, .plain offset_Index_Byte_fun), (15, .plain law02_Told_fun)]
noncomputable def law02_OffsetSpans_fun : Fun := ⟨[.sl (.int .u8), .int .i64, .int .i64], [.v .bool], fun x => law02_OffsetSpans_F x.1 x.2.1 x.2.2.1⟩
theorem law02_OffsetSpans_ev (x : Tys.I [.sl (.int .u8), .int .i64, .int .i64]) : evFun G0 (fun f => olook f law02_OffsetSpans_C) ⟨[], [], [], [], [], []⟩ (fun i => olook i law02_OffsetSpans_L) Tryd.f4 [.sl (.int .u8), .int .i64, .int .i64] [.v .bool] x = law02_OffsetSpans_T x.1 x.2.1 x.2.2.1 := by kernel_rfl
theorem law02_OffsetSpans_ok : FunOk Tryd.prog 4 law02_OffsetSpans_fun := evFun_ok mixed ctx0 (cons_calls (fb := .plain law02_awake_fun) law02_awake_ok (fun h => by cases h) (cons_calls (fb := .plain offset_Of_fun) offset_Of_ok (fun h => by cases h) (cons_calls (fb := .plain offset_Index_Span_fun) offset_Index_Span_ok (fun h => by cases h) (cons_calls (fb := .plain offset_Index_Byte_fun) offset_Index_Byte_ok (fun h => by cases h) (cons_calls (fb := .plain law02_Told_fun) law02_Told_ok (fun h => by cases h) (no_calls)))))) Tryd.func4 (by kernel_rfl) _ (fun x => congrArg Tr.run (law02_OffsetSpans_ev x)) (by kernel_rfl) (by kernel_rfl)
/-! ### boustrophedon/boustrophedonlaw02.OffsetBack -/
noncomputable def law02_OffsetBack_L5 (b0 : List Int) (x3 : List Int × Int) (k4 : Int) : Tr (Lap (List Int × (List Int × Int) × Int) (Sum (List Int × List Int × Int) Bool)) :=
  .bnd (offset_Index_Count_F x3) fun c_3 =>
  .br (decide (k4 ≤ c_3)) (
    .bnd (offset_Index_Byte_F x3 k4) fun c_4 =>
    .bnd (offset_Index_Scalar_F x3 c_4.1) fun c_5 =>
    .br c_4.2.isSome (
      .pure (.done (.inr false))) (
      .br c_5.2.isSome (
        .pure (.done (.inr false))) (
        .br (c_5.1 != k4) (
          .pure (.done (.inr false))) (
          .pure (.next (b0, x3, IntKind.i64.wrap (k4 + 1))))))) (
    .pure (.done (.inl (b0, x3))))
noncomputable def law02_OffsetBack_L13 (b0 : List Int) (x3 : List Int × Int) (last9 : Int) (at10 : Int) : Tr (Lap (List Int × (List Int × Int) × Int × Int) (Sum Unit Bool)) :=
  .br (decide (at10 ≤ (b0.length : Int))) (
    .bnd (offset_Index_Scalar_F x3 at10) fun c_7 =>
    .bnd (offset_Index_Byte_F x3 c_7.1) fun c_8 =>
    .br c_7.2.isSome (
      .pure (.done (.inr false))) (
      .br c_8.2.isSome (
        .pure (.done (.inr false))) (
        .br (decide (c_8.1 > at10)) (
          .pure (.done (.inr false))) (
          .br (decide (c_7.1 < last9)) (
            .pure (.done (.inr false))) (
            .br (decide (c_7.1 > (IntKind.i64.wrap (last9 + 1)))) (
              .pure (.done (.inr false))) (
              .pure (.next (b0, x3, c_7.1, IntKind.i64.wrap (at10 + 1))))))))) (
    .pure (.done (.inl ())))
noncomputable def law02_OffsetBack_T (b0 : List Int) : Tr Bool :=
  .bnd law02_awake_F fun c_1 =>
  .br (!c_1) (
    .pure false) (
    .bnd (offset_Of_F b0) fun c_2 =>
    .alt (loopW (fun s => (law02_OffsetBack_L5 s.1 s.2.1 s.2.2).run) (b0, c_2, 0)) (fun l_6 =>
      .alt (loopW (fun s => (law02_OffsetBack_L13 s.1 s.2.1 s.2.2.1 s.2.2.2).run) (l_6.1, l_6.2, 0, 0)) (fun l_9 =>
        .pure true) (fun l_10 =>
        .pure l_10)) (fun l_11 =>
      .pure l_11))
noncomputable def law02_OffsetBack_F (b0 : List Int) : Option Bool := (law02_OffsetBack_T b0).run
def law02_OffsetBack_L : List (Nat × LoopAnn) := [(5, { head := [.sv 0 false (.sl (.int .u8)), .sv 3 true (.ptr (.st (.pair (.sl (.int .i64)) (.int .i64)))), .sv 4 true (.int .i64)], xid := 0, out := [.sv 0 false (.sl (.int .u8)), .sv 3 true (.ptr (.st (.pair (.sl (.int .i64)) (.int .i64))))], hasRet := true, res := [.sv 2 true .bool] }), (13, { head := [.sv 0 false (.sl (.int .u8)), .sv 3 true (.ptr (.st (.pair (.sl (.int .i64)) (.int .i64)))), .sv 9 true (.int .i64), .sv 10 true (.int .i64)], xid := 2, out := [], hasRet := true, res := [.sv 2 true .bool] })]
noncomputable def law02_OffsetBack_C : List (Nat × Callee) := [(9, .plain law02_awake_fun), (10, .plain offset_Of_fun), (12, .plain offset_Index_Count_fun), (14, .plain offset_Index_Byte_fun), (16, .plain offset_Index_Scalar_fun)]
noncomputable def law02_OffsetBack_fun : Fun := ⟨[.sl (.int .u8)], [.v .bool], fun x => law02_OffsetBack_F x.1⟩
theorem law02_OffsetBack_ev (x : Tys.I [.sl (.int .u8)]) : evFun G0 (fun f => olook f law02_OffsetBack_C) ⟨[], [], [], [], [], []⟩ (fun i => olook i law02_OffsetBack_L) Tryd.f5 [.sl (.int .u8)] [.v .bool] x = law02_OffsetBack_T x.1 := by kernel_rfl
theorem law02_OffsetBack_ok : FunOk Tryd.prog 5 law02_OffsetBack_fun := evFun_ok mixed ctx0 (cons_calls (fb := .plain law02_awake_fun) law02_awake_ok (fun h => by cases h) (cons_calls (fb := .plain offset_Of_fun) offset_Of_ok (fun h => by cases h) (cons_calls (fb := .plain offset_Index_Count_fun) offset_Index_Count_ok (fun h => by cases h) (cons_calls (fb := .plain offset_Index_Byte_fun) offset_Index_Byte_ok (fun h => by cases h) (cons_calls (fb := .plain offset_Index_Scalar_fun) offset_Index_Scalar_ok (fun h => by cases h) (no_calls)))))) Tryd.func5 (by kernel_rfl) _ (fun x => congrArg Tr.run (law02_OffsetBack_ev x)) (by kernel_rfl) (by kernel_rfl)
/-! ### boustrophedon/utf.Scalar -/
noncomputable def utf_Scalar_T (r0 : Int) : Tr Bool :=
  .br (decide (0 ≤ r0)) (
    .br (decide (r0 < 55296)) (
      .pure true) (
      .br (decide (57343 < r0)) (
        .pure (decide (r0 ≤ 1114111))) (
        .pure false))) (
    .br (decide (57343 < r0)) (
      .pure (decide (r0 ≤ 1114111))) (
      .pure false))
noncomputable def utf_Scalar_F (r0 : Int) : Option Bool := (utf_Scalar_T r0).run
def utf_Scalar_L : List (Nat × LoopAnn) := []
noncomputable def utf_Scalar_C : List (Nat × Callee) := []
noncomputable def utf_Scalar_fun : Fun := ⟨[.int .i32], [.v .bool], fun x => utf_Scalar_F x.1⟩
theorem utf_Scalar_ev (x : Tys.I [.int .i32]) : evFun G0 (fun f => olook f utf_Scalar_C) ⟨[], [], [], [], [], []⟩ (fun i => olook i utf_Scalar_L) Tryd.f36 [.int .i32] [.v .bool] x = utf_Scalar_T x.1 := by kernel_rfl
theorem utf_Scalar_ok : FunOk Tryd.prog 36 utf_Scalar_fun := evFun_ok mixed ctx0 (no_calls) Tryd.func36 (by kernel_rfl) _ (fun x => congrArg Tr.run (utf_Scalar_ev x)) (by kernel_rfl) (by kernel_rfl)
/-! ### boustrophedon/utf.tail -/
noncomputable def utf_tail_T (r0 : Int) : Tr Int :=
  .pure (ibits .or .u8 128 (IntKind.u8.wrap (ibits .and .i32 r0 63)))
noncomputable def utf_tail_F (r0 : Int) : Option Int := (utf_tail_T r0).run
def utf_tail_L : List (Nat × LoopAnn) := []
noncomputable def utf_tail_C : List (Nat × Callee) := []
noncomputable def utf_tail_fun : Fun := ⟨[.int .i32], [.v (.int .u8)], fun x => utf_tail_F x.1⟩
theorem utf_tail_ev (x : Tys.I [.int .i32]) : evFun G0 (fun f => olook f utf_tail_C) ⟨[], [], [], [], [], []⟩ (fun i => olook i utf_tail_L) Tryd.f37 [.int .i32] [.v (.int .u8)] x = utf_tail_T x.1 := by kernel_rfl
theorem utf_tail_ok : FunOk Tryd.prog 37 utf_tail_fun := evFun_ok mixed ctx0 (no_calls) Tryd.func37 (by kernel_rfl) _ (fun x => congrArg Tr.run (utf_tail_ev x)) (by kernel_rfl) (by kernel_rfl)
/-! ### boustrophedon/utf.write -/
noncomputable def utf_write_T (b0 : List Int) (r1 : Int) : Tr (List Int) :=
  .bnd (utf_Scalar_F r1) fun c_1 =>
  .br (!c_1) (
    .br (decide (65533 < 128)) (
      .bnd (app 140737488355328 b0 ([IntKind.u8.wrap 65533])) fun r_2 =>
      .pure r_2) (
      .br (decide (65533 < 2048)) (
        .bnd (utf_tail_F 65533) fun c_3 =>
        .bnd (app 140737488355328 b0 ([ibits .or .u8 192 (IntKind.u8.wrap (shiftBy .shr .i32 65533 6)), c_3])) fun r_4 =>
        .pure r_4) (
        .br (decide (65533 < 65536)) (
          .bnd (utf_tail_F (shiftBy .shr .i32 65533 6)) fun c_5 =>
          .bnd (utf_tail_F 65533) fun c_6 =>
          .bnd (app 140737488355328 b0 ([ibits .or .u8 224 (IntKind.u8.wrap (shiftBy .shr .i32 65533 12)), c_5, c_6])) fun r_7 =>
          .pure r_7) (
          .bnd (utf_tail_F (shiftBy .shr .i32 65533 12)) fun c_8 =>
          .bnd (utf_tail_F (shiftBy .shr .i32 65533 6)) fun c_9 =>
          .bnd (utf_tail_F 65533) fun c_10 =>
          .bnd (app 140737488355328 b0 ([ibits .or .u8 240 (IntKind.u8.wrap (shiftBy .shr .i32 65533 18)), c_8, c_9, c_10])) fun r_11 =>
          .pure r_11)))) (
    .br (decide (r1 < 128)) (
      .bnd (app 140737488355328 b0 ([IntKind.u8.wrap r1])) fun r_12 =>
      .pure r_12) (
      .br (decide (r1 < 2048)) (
        .bnd (utf_tail_F r1) fun c_13 =>
        .bnd (app 140737488355328 b0 ([ibits .or .u8 192 (IntKind.u8.wrap (shiftBy .shr .i32 r1 6)), c_13])) fun r_14 =>
        .pure r_14) (
        .br (decide (r1 < 65536)) (
          .bnd (utf_tail_F (shiftBy .shr .i32 r1 6)) fun c_15 =>
          .bnd (utf_tail_F r1) fun c_16 =>
          .bnd (app 140737488355328 b0 ([ibits .or .u8 224 (IntKind.u8.wrap (shiftBy .shr .i32 r1 12)), c_15, c_16])) fun r_17 =>
          .pure r_17) (
          .bnd (utf_tail_F (shiftBy .shr .i32 r1 12)) fun c_18 =>
          .bnd (utf_tail_F (shiftBy .shr .i32 r1 6)) fun c_19 =>
          .bnd (utf_tail_F r1) fun c_20 =>
          .bnd (app 140737488355328 b0 ([ibits .or .u8 240 (IntKind.u8.wrap (shiftBy .shr .i32 r1 18)), c_18, c_19, c_20])) fun r_21 =>
          .pure r_21))))
noncomputable def utf_write_F (b0 : List Int) (r1 : Int) : Option (List Int) := (utf_write_T b0 r1).run
def utf_write_L : List (Nat × LoopAnn) := []
noncomputable def utf_write_C : List (Nat × Callee) := [(36, .plain utf_Scalar_fun), (37, .plain utf_tail_fun)]
noncomputable def utf_write_fun : TFun := ⟨5, (.int .u8), [.int .i32], fun s x => utf_write_F s x.1⟩
theorem utf_write_ev (s : List Int) (x : Tys.I [.int .i32]) : evFunT G0 (fun f => olook f utf_write_C) ⟨[], [], [], [], [], []⟩ (fun i => olook i utf_write_L) Tryd.f28 5 (.int .u8) [.int .i32] s x = utf_write_T s x.1 := by kernel_rfl
theorem utf_write_ok : TakeOk Tryd.prog 28 utf_write_fun := evFunT_ok mixed ctx0 (cons_calls (fb := .plain utf_Scalar_fun) utf_Scalar_ok (fun h => by cases h) (cons_calls (fb := .plain utf_tail_fun) utf_tail_ok (fun h => by cases h) (no_calls))) Tryd.func28 (by kernel_rfl) _ (fun s x => congrArg Tr.run (utf_write_ev s x)) (by kernel_rfl)
/-! ### boustrophedon/utf.Encode -/
noncomputable def utf_Encode_L3 (b3 : List Int) (t6 : List Int) (t7 : Int) (t8 : Int) : Tr (Lap (List Int × List Int × Int × Int) (List Int)) :=
  .br (decide (t8 < t7)) (
    .bnd (idx t6 t8) fun x_1 =>
    .bnd (utf_write_F b3 x_1) fun c_2 =>
    .pure (.next (c_2, t6, t7, IntKind.i64.wrap (t8 + 1)))) (
    .pure (.done b3))
noncomputable def utf_Encode_T (rs0 : List Int) : Tr (List Int) :=
  .bnd (loopW (fun s => (utf_Encode_L3 s.1 s.2.1 s.2.2.1 s.2.2.2).run) ([], rs0, (rs0.length : Int), 0)) fun l_3 =>
  .pure l_3
noncomputable def utf_Encode_F (rs0 : List Int) : Option (List Int) := (utf_Encode_T rs0).run
def utf_Encode_L : List (Nat × LoopAnn) := [(3, { head := [.srow 3 1000003 5 true (.int .u8), .sv 6 false (.sl (.int .i32)), .sv 7 true (.int .i64), .sv 8 true (.int .i64)], xid := 0, out := [.srow 3 1000003 5 true (.int .u8)], hasRet := false, res := [] })]
noncomputable def utf_Encode_C : List (Nat × Callee) := [(28, .take utf_write_fun)]
noncomputable def utf_Encode_fun : Fun := ⟨[.sl (.int .i32)], [.row 5 (.int .u8)], fun x => utf_Encode_F x.1⟩
theorem utf_Encode_ev (x : Tys.I [.sl (.int .i32)]) : evFun G0 (fun f => olook f utf_Encode_C) ⟨[], [], [28], [], [], []⟩ (fun i => olook i utf_Encode_L) Tryd.f18 [.sl (.int .i32)] [.row 5 (.int .u8)] x = utf_Encode_T x.1 := by kernel_rfl
theorem utf_Encode_ok : FunOk Tryd.prog 18 utf_Encode_fun := evFun_ok mixed ctx0 (cons_calls (fb := .take utf_write_fun) utf_write_ok (fun h => by rfl) (no_calls)) Tryd.func18 (by kernel_rfl) _ (fun x => congrArg Tr.run (utf_Encode_ev x)) (by kernel_rfl) (by kernel_rfl)
/-! ### boustrophedon/boustrophedonlaw02.OffsetSums -/
noncomputable def law02_OffsetSums_T (raw0 : List Int) (i1 : Int) (j2 : Int) (k3 : Int) : Tr Bool :=
  .bnd law02_awake_F fun c_1 =>
  .br (!c_1) (
    .pure false) (
    .bnd (utf_Encode_F raw0) fun c_2 =>
    .bnd (offset_Of_F c_2) fun c_3 =>
    .bnd (offset_Index_Count_F c_3) fun c_4 =>
    .br ((IntKind.i64.wrap (c_4 + 1)) != 0) (
      .br ((IntKind.i64.wrap ((IntKind.i64.wrap (c_4 + 1)) - ((IntKind.i64.wrap i1).tmod (IntKind.i64.wrap (c_4 + 1))))) != 0) (
        .br ((IntKind.i64.wrap ((IntKind.i64.wrap (c_4 + 1)) - (IntKind.i64.wrap (((IntKind.i64.wrap i1).tmod (IntKind.i64.wrap (c_4 + 1))) + ((IntKind.i64.wrap j2).tmod (IntKind.i64.wrap ((IntKind.i64.wrap (c_4 + 1)) - ((IntKind.i64.wrap i1).tmod (IntKind.i64.wrap (c_4 + 1)))))))))) != 0) (
          .bnd (offset_Index_Span_F c_3 ((IntKind.i64.wrap i1).tmod (IntKind.i64.wrap (c_4 + 1))) (IntKind.i64.wrap (((IntKind.i64.wrap i1).tmod (IntKind.i64.wrap (c_4 + 1))) + ((IntKind.i64.wrap j2).tmod (IntKind.i64.wrap ((IntKind.i64.wrap (c_4 + 1)) - ((IntKind.i64.wrap i1).tmod (IntKind.i64.wrap (c_4 + 1))))))))) fun c_5 =>
          .bnd (offset_Index_Span_F c_3 (IntKind.i64.wrap (((IntKind.i64.wrap i1).tmod (IntKind.i64.wrap (c_4 + 1))) + ((IntKind.i64.wrap j2).tmod (IntKind.i64.wrap ((IntKind.i64.wrap (c_4 + 1)) - ((IntKind.i64.wrap i1).tmod (IntKind.i64.wrap (c_4 + 1)))))))) (IntKind.i64.wrap ((IntKind.i64.wrap (((IntKind.i64.wrap i1).tmod (IntKind.i64.wrap (c_4 + 1))) + ((IntKind.i64.wrap j2).tmod (IntKind.i64.wrap ((IntKind.i64.wrap (c_4 + 1)) - ((IntKind.i64.wrap i1).tmod (IntKind.i64.wrap (c_4 + 1)))))))) + ((IntKind.i64.wrap k3).tmod (IntKind.i64.wrap ((IntKind.i64.wrap (c_4 + 1)) - (IntKind.i64.wrap (((IntKind.i64.wrap i1).tmod (IntKind.i64.wrap (c_4 + 1))) + ((IntKind.i64.wrap j2).tmod (IntKind.i64.wrap ((IntKind.i64.wrap (c_4 + 1)) - ((IntKind.i64.wrap i1).tmod (IntKind.i64.wrap (c_4 + 1)))))))))))))) fun c_6 =>
          .bnd (offset_Index_Span_F c_3 ((IntKind.i64.wrap i1).tmod (IntKind.i64.wrap (c_4 + 1))) (IntKind.i64.wrap ((IntKind.i64.wrap (((IntKind.i64.wrap i1).tmod (IntKind.i64.wrap (c_4 + 1))) + ((IntKind.i64.wrap j2).tmod (IntKind.i64.wrap ((IntKind.i64.wrap (c_4 + 1)) - ((IntKind.i64.wrap i1).tmod (IntKind.i64.wrap (c_4 + 1)))))))) + ((IntKind.i64.wrap k3).tmod (IntKind.i64.wrap ((IntKind.i64.wrap (c_4 + 1)) - (IntKind.i64.wrap (((IntKind.i64.wrap i1).tmod (IntKind.i64.wrap (c_4 + 1))) + ((IntKind.i64.wrap j2).tmod (IntKind.i64.wrap ((IntKind.i64.wrap (c_4 + 1)) - ((IntKind.i64.wrap i1).tmod (IntKind.i64.wrap (c_4 + 1)))))))))))))) fun c_7 =>
          .br c_5.2.2.isSome (
            .pure false) (
            .br c_6.2.2.isSome (
              .pure false) (
              .br c_7.2.2.isSome (
                .pure false) (
                .br (c_5.1 != c_7.1) (
                  .pure false) (
                  .br (c_5.2.1 != c_6.1) (
                    .pure false) (
                    .br (c_6.2.1 != c_7.2.1) (
                      .pure false) (
                      .br (c_4 != (raw0.length : Int)) (
                        .pure false) (
                        .bnd (cut c_2 c_5.1 c_5.2.1) fun r_8 =>
                        .bnd (cut raw0 ((IntKind.i64.wrap i1).tmod (IntKind.i64.wrap (c_4 + 1))) (IntKind.i64.wrap (((IntKind.i64.wrap i1).tmod (IntKind.i64.wrap (c_4 + 1))) + ((IntKind.i64.wrap j2).tmod (IntKind.i64.wrap ((IntKind.i64.wrap (c_4 + 1)) - ((IntKind.i64.wrap i1).tmod (IntKind.i64.wrap (c_4 + 1))))))))) fun r_9 =>
                        .bnd (utf_Encode_F r_9) fun c_10 =>
                        .pure ((strOfNums r_8).toList == (strOfNums c_10).toList))))))))) (
          .fail)) (
        .fail)) (
      .fail))
noncomputable def law02_OffsetSums_F (raw0 : List Int) (i1 : Int) (j2 : Int) (k3 : Int) : Option Bool := (law02_OffsetSums_T raw0 i1 j2 k3).run
def law02_OffsetSums_L : List (Nat × LoopAnn) := []
noncomputable def law02_OffsetSums_C : List (Nat × Callee) := [(9, .plain law02_awake_fun), (18, .plain utf_Encode_fun), (10, .plain offset_Of_fun), (12, .plain offset_Index_Count_fun), (17, .plain offset_Index_Span_fun)]
noncomputable def law02_OffsetSums_fun : Fun := ⟨[.sl (.int .i32), .int .u8, .int .u8, .int .u8], [.v .bool], fun x => law02_OffsetSums_F x.1 x.2.1 x.2.2.1 x.2.2.2.1⟩
theorem law02_OffsetSums_ev (x : Tys.I [.sl (.int .i32), .int .u8, .int .u8, .int .u8]) : evFun G0 (fun f => olook f law02_OffsetSums_C) ⟨[], [], [], [], [], []⟩ (fun i => olook i law02_OffsetSums_L) Tryd.f6 [.sl (.int .i32), .int .u8, .int .u8, .int .u8] [.v .bool] x = law02_OffsetSums_T x.1 x.2.1 x.2.2.1 x.2.2.2.1 := by kernel_rfl
theorem law02_OffsetSums_ok : FunOk Tryd.prog 6 law02_OffsetSums_fun := evFun_ok mixed ctx0 (cons_calls (fb := .plain law02_awake_fun) law02_awake_ok (fun h => by cases h) (cons_calls (fb := .plain utf_Encode_fun) utf_Encode_ok (fun h => by cases h) (cons_calls (fb := .plain offset_Of_fun) offset_Of_ok (fun h => by cases h) (cons_calls (fb := .plain offset_Index_Count_fun) offset_Index_Count_ok (fun h => by cases h) (cons_calls (fb := .plain offset_Index_Span_fun) offset_Index_Span_ok (fun h => by cases h) (no_calls)))))) Tryd.func6 (by kernel_rfl) _ (fun x => congrArg Tr.run (law02_OffsetSums_ev x)) (by kernel_rfl) (by kernel_rfl)
end Go.Proofs.YtenbafgojodpnaaDoor
