/-
  The plain readings of the functions of this seat, by program; each is tied to the loaded function.
-/
import Derived.Test.YtbldbneianlolaaEvErr
import Derived.Test.YtbldbneianlolaaChecked
namespace Go.Proofs.Ytbldbneianlolaa
set_option maxRecDepth 100000
set_option linter.unusedVariables false

def G0 : Ctx := { ty := [(3, .int .i64), (4, .bool), (5, .int .u8), (21, .int .i32), (22, .sl (.int .u8)), (28, .sl (.int .i32)), (29, .sl (.int .i64))], sls := [(22, ⟨5, .int .u8, 140737488355328⟩), (28, ⟨21, .int .i32, 35184372088832⟩), (29, ⟨3, .int .i64, 17592186044416⟩)], eqs := [], enos := [] }
theorem mixed : Try.prog.follows .mixedOrders = true := by kernel_rfl
theorem ctx0 : CtxOk Try.prog G0 := ctx_ok (by kernel_rfl)
theorem no_calls {Λ : List Nat} : ∀ f fa, olook f ([] : List (Nat × Callee)) = some fa → CalleeOk Try.prog f fa ∧ (fa.isPlain = false → inList f Λ = true) := fun _ _ h => by cases h
theorem cons_calls {Λ : List Nat} {k : Nat} {fb : Callee} {l : List (Nat × Callee)} (h : CalleeOk Try.prog k fb) (hi : fb.isPlain = false → inList k Λ = true) (hl : ∀ f fa, olook f l = some fa → CalleeOk Try.prog f fa ∧ (fa.isPlain = false → inList f Λ = true)) : ∀ f fa, olook f ((k, fb) :: l) = some fa → CalleeOk Try.prog f fa ∧ (fa.isPlain = false → inList f Λ = true) := by
  intro f fa hf
  rw [olook_cons] at hf
  split at hf
  · rename_i e; subst e; cases hf; exact ⟨h, hi⟩
  · exact hl f fa hf

/-! ### boustrophedon/utf.lead -/
noncomputable def utf_lead_T (b0 : Int) : Tr (Int × Int × Int) :=
  .br (decide (b0 < 128)) (
    .pure (1, 0, 0)) (
    .br (decide (b0 < 194)) (
      .pure (0, 0, 0)) (
      .br (decide (b0 < 224)) (
        .pure (2, 128, 191)) (
        .br (b0 == 224) (
          .pure (3, 160, 191)) (
          .br (b0 == 237) (
            .pure (3, 128, 159)) (
            .br (decide (b0 < 240)) (
              .pure (3, 128, 191)) (
              .br (b0 == 240) (
                .pure (4, 144, 191)) (
                .br (decide (b0 < 244)) (
                  .pure (4, 128, 191)) (
                  .br (b0 == 244) (
                    .pure (4, 128, 143)) (
                    .pure (0, 0, 0))))))))))
noncomputable def utf_lead_F (b0 : Int) : Option (Int × Int × Int) := (utf_lead_T b0).run
def utf_lead_L : List (Nat × LoopAnn) := []
noncomputable def utf_lead_C : List (Nat × Callee) := []
noncomputable def utf_lead_fun : Fun := ⟨[.int .u8], [.v (.int .i64), .v (.int .u8), .v (.int .u8)], fun x => utf_lead_F x.1⟩
theorem utf_lead_ev (x : Tys.I [.int .u8]) : evFun G0 (fun f => olook f utf_lead_C) ⟨[], [], []⟩ (fun i => olook i utf_lead_L) Try.f43 [.int .u8] [.v (.int .i64), .v (.int .u8), .v (.int .u8)] x = utf_lead_T x.1 := by kernel_rfl
theorem utf_lead_ok : FunOk Try.prog 43 utf_lead_fun := evFun_ok mixed ctx0 (no_calls) Try.func43 (by kernel_rfl) _ (fun x => congrArg Tr.run (utf_lead_ev x)) (by kernel_rfl) (by kernel_rfl)
/-! ### boustrophedon/utf.read -/
noncomputable def utf_read_L10 (b0 : List Int) (at1 : Int) (size7 : Int) (lo8 : Int) (hi9 : Int) (r10 : Int) (i11 : Int) : Tr (Lap (List Int × Int × Int × Int × Int × Int × Int) (Sum (Int × Int) (Int × Int × Bool))) :=
  .br (decide (i11 < size7)) (
    .br (decide (i11 ≥ (IntKind.i64.wrap ((b0.length : Int) - at1)))) (
      .pure (.done (.inr (65533, i11, false)))) (
      .bnd (idx b0 (IntKind.i64.wrap (at1 + i11))) fun x_5 =>
      .br (decide (x_5 < lo8)) (
        .pure (.done (.inr (65533, i11, false)))) (
        .bnd (idx b0 (IntKind.i64.wrap (at1 + i11))) fun x_6 =>
        .br (decide (x_6 > hi9)) (
          .pure (.done (.inr (65533, i11, false)))) (
          .bnd (idx b0 (IntKind.i64.wrap (at1 + i11))) fun x_7 =>
          .pure (.next (b0, at1, size7, 128, 191, ibits .or .i32 (shiftBy .shl .i32 r10 6) (IntKind.i32.wrap (ibits .and .u8 x_7 63)), IntKind.i64.wrap (i11 + 1))))))) (
    .pure (.done (.inl (size7, r10))))
noncomputable def utf_read_T (b0 : List Int) (at1 : Int) : Tr (Int × Int × Bool) :=
  .br (decide (at1 < 0)) (
    .pure (0, 0, false)) (
    .br (decide (at1 ≥ (b0.length : Int))) (
      .pure (0, 0, false)) (
      .bnd (idx b0 at1) fun x_1 =>
      .bnd (utf_lead_F x_1) fun c_2 =>
      .br (c_2.1 == 0) (
        .pure (65533, 1, false)) (
        .br (c_2.1 == 1) (
          .bnd (idx b0 at1) fun x_3 =>
          .pure (IntKind.i32.wrap x_3, 1, true)) (
          .bnd (idx b0 at1) fun x_4 =>
          .br (decide (0 ≤ c_2.1)) (
            .alt (loopW (fun s => (utf_read_L10 s.1 s.2.1 s.2.2.1 s.2.2.2.1 s.2.2.2.2.1 s.2.2.2.2.2.1 s.2.2.2.2.2.2).run) (b0, at1, c_2.1, c_2.2.1, c_2.2.2, IntKind.i32.wrap (ibits .and .u8 x_4 (shiftBy .shr .u8 127 c_2.1)), 1)) (fun l_8 =>
              .pure (l_8.2, l_8.1, true)) (fun l_9 =>
              .pure (l_9.1, l_9.2.1, l_9.2.2))) (
            .fail)))))
noncomputable def utf_read_F (b0 : List Int) (at1 : Int) : Option (Int × Int × Bool) := (utf_read_T b0 at1).run
def utf_read_L : List (Nat × LoopAnn) := [(10, { head := [.sv 0 false (.sl (.int .u8)), .sv 1 false (.int .i64), .sv 7 true (.int .i64), .sv 8 true (.int .u8), .sv 9 true (.int .u8), .sv 10 true (.int .i32), .sv 11 true (.int .i64)], xid := 0, out := [.sv 7 true (.int .i64), .sv 10 true (.int .i32)], hasRet := true, res := [.sv 4 true (.int .i32), .sv 5 true (.int .i64), .sv 6 true .bool] })]
noncomputable def utf_read_C : List (Nat × Callee) := [(43, .plain utf_lead_fun)]
noncomputable def utf_read_fun : Fun := ⟨[.sl (.int .u8), .int .i64], [.v (.int .i32), .v (.int .i64), .v .bool], fun x => utf_read_F x.1 x.2.1⟩
theorem utf_read_ev (x : Tys.I [.sl (.int .u8), .int .i64]) : evFun G0 (fun f => olook f utf_read_C) ⟨[], [], []⟩ (fun i => olook i utf_read_L) Try.f32 [.sl (.int .u8), .int .i64] [.v (.int .i32), .v (.int .i64), .v .bool] x = utf_read_T x.1 x.2.1 := by kernel_rfl
theorem utf_read_ok : FunOk Try.prog 32 utf_read_fun := evFun_ok mixed ctx0 (cons_calls (fb := .plain utf_lead_fun) utf_lead_ok (fun h => by cases h) (no_calls)) Try.func32 (by kernel_rfl) _ (fun x => congrArg Tr.run (utf_read_ev x)) (by kernel_rfl) (by kernel_rfl)
/-! ### boustrophedon/utf.Next -/
noncomputable def utf_Next_T (b0 : List Int) (at1 : Int) : Tr (Int × Int) :=
  .bnd (utf_read_F b0 at1) fun c_1 =>
  .pure (c_1.1, c_1.2.1)
noncomputable def utf_Next_F (b0 : List Int) (at1 : Int) : Option (Int × Int) := (utf_Next_T b0 at1).run
def utf_Next_L : List (Nat × LoopAnn) := []
noncomputable def utf_Next_C : List (Nat × Callee) := [(32, .plain utf_read_fun)]
noncomputable def utf_Next_fun : Fun := ⟨[.sl (.int .u8), .int .i64], [.v (.int .i32), .v (.int .i64)], fun x => utf_Next_F x.1 x.2.1⟩
theorem utf_Next_ev (x : Tys.I [.sl (.int .u8), .int .i64]) : evFun G0 (fun f => olook f utf_Next_C) ⟨[], [], []⟩ (fun i => olook i utf_Next_L) Try.f16 [.sl (.int .u8), .int .i64] [.v (.int .i32), .v (.int .i64)] x = utf_Next_T x.1 x.2.1 := by kernel_rfl
theorem utf_Next_ok : FunOk Try.prog 16 utf_Next_fun := evFun_ok mixed ctx0 (cons_calls (fb := .plain utf_read_fun) utf_read_ok (fun h => by cases h) (no_calls)) Try.func16 (by kernel_rfl) _ (fun x => congrArg Tr.run (utf_Next_ev x)) (by kernel_rfl) (by kernel_rfl)
/-! ### boustrophedon/utf.Decode -/
noncomputable def utf_Decode_L4 (b0 : List Int) (rs4 : List Int) (starts5 : List Int) (at6 : Int) : Tr (Lap (List Int × List Int × List Int × Int) (List Int × List Int)) :=
  .br (decide (at6 < (b0.length : Int))) (
    .bnd (utf_Next_F b0 at6) fun c_1 =>
    .bnd (app 35184372088832 rs4 ([c_1.1])) fun r_2 =>
    .bnd (app 17592186044416 starts5 ([at6])) fun r_3 =>
    .pure (.next (b0, r_2, r_3, IntKind.i64.wrap (at6 + c_1.2)))) (
    .pure (.done (rs4, starts5)))
noncomputable def utf_Decode_T (b0 : List Int) : Tr (List Int × List Int) :=
  .bnd (loopW (fun s => (utf_Decode_L4 s.1 s.2.1 s.2.2.1 s.2.2.2).run) (b0, [], [], 0)) fun l_4 =>
  .pure (l_4.1, l_4.2)
noncomputable def utf_Decode_F (b0 : List Int) : Option (List Int × List Int) := (utf_Decode_T b0).run
def utf_Decode_L : List (Nat × LoopAnn) := [(4, { head := [.sv 0 false (.sl (.int .u8)), .srow 4 1000004 21 true (.int .i32), .srow 5 1000005 3 true (.int .i64), .sv 6 true (.int .i64)], xid := 0, out := [.srow 4 1000004 21 true (.int .i32), .srow 5 1000005 3 true (.int .i64)], hasRet := false, res := [] })]
noncomputable def utf_Decode_C : List (Nat × Callee) := [(16, .plain utf_Next_fun)]
noncomputable def utf_Decode_fun : Fun := ⟨[.sl (.int .u8)], [.row 21 (.int .i32), .row 3 (.int .i64)], fun x => utf_Decode_F x.1⟩
theorem utf_Decode_ev (x : Tys.I [.sl (.int .u8)]) : evFun G0 (fun f => olook f utf_Decode_C) ⟨[], [], []⟩ (fun i => olook i utf_Decode_L) Try.f18 [.sl (.int .u8)] [.row 21 (.int .i32), .row 3 (.int .i64)] x = utf_Decode_T x.1 := by kernel_rfl
theorem utf_Decode_ok : FunOk Try.prog 18 utf_Decode_fun := evFun_ok mixed ctx0 (cons_calls (fb := .plain utf_Next_fun) utf_Next_ok (fun h => by cases h) (no_calls)) Try.func18 (by kernel_rfl) _ (fun x => congrArg Tr.run (utf_Decode_ev x)) (by kernel_rfl) (by kernel_rfl)
/-! ### boustrophedon/boustrophedonlaw01.awake -/
noncomputable def law01_awake_T : Tr Bool :=
  .bnd (utf_Next_F ([226, 130, 65]) 0) fun c_1 =>
  .bnd (utf_Next_F ([240, 128, 128, 128]) 0) fun c_2 =>
  .bnd (utf_Next_F ([237, 160, 128]) 0) fun c_3 =>
  .bnd (utf_Decode_F ([97, 195, 169, 255])) fun c_4 =>
  .br (c_1.1 == 65533) (
    .br (c_1.2 == 2) (
      .br (c_2.1 == 65533) (
        .br (c_2.2 == 1) (
          .br (c_3.1 == 65533) (
            .br (c_3.2 == 1) (
              .br ((c_4.1.length : Int) == 3) (
                .bnd (idx c_4.1 1) fun x_5 =>
                .br (x_5 == 233) (
                  .bnd (idx c_4.1 2) fun x_6 =>
                  .br (x_6 == 65533) (
                    .br ((c_4.2.length : Int) == 3) (
                      .bnd (idx c_4.2 2) fun x_7 =>
                      .pure (x_7 == 3)) (
                      .pure false)) (
                    .pure false)) (
                  .pure false)) (
                .pure false)) (
              .pure false)) (
            .pure false)) (
          .pure false)) (
        .pure false)) (
      .pure false)) (
    .pure false)
noncomputable def law01_awake_F : Option Bool := (law01_awake_T).run
def law01_awake_L : List (Nat × LoopAnn) := []
noncomputable def law01_awake_C : List (Nat × Callee) := [(16, .plain utf_Next_fun), (18, .plain utf_Decode_fun)]
noncomputable def law01_awake_fun : Fun := ⟨[], [.v .bool], fun _ => law01_awake_F⟩
theorem law01_awake_ev (x : Tys.I []) : evFun G0 (fun f => olook f law01_awake_C) ⟨[], [], []⟩ (fun i => olook i law01_awake_L) Try.f15 [] [.v .bool] x = law01_awake_T := by kernel_rfl
theorem law01_awake_ok : FunOk Try.prog 15 law01_awake_fun := evFun_ok mixed ctx0 (cons_calls (fb := .plain utf_Next_fun) utf_Next_ok (fun h => by cases h) (cons_calls (fb := .plain utf_Decode_fun) utf_Decode_ok (fun h => by cases h) (no_calls))) Try.func15 (by kernel_rfl) _ (fun x => congrArg Tr.run (law01_awake_ev x)) (by kernel_rfl) (by kernel_rfl)
/-! ### boustrophedon/boustrophedonref01.Bytes -/
noncomputable def ref01_Bytes_L13 (r0 : Int) (n4 : Int) (by5 : Int) (k6 : Int) : Tr (Lap (Int × Int × Int × Int) (Int × Int × Int)) :=
  .br (decide (k6 < n4)) (
    .pure (.next (r0, n4, IntKind.i64.wrap (by5 * 64), IntKind.i64.wrap (k6 + 1)))) (
    .pure (.done (r0, n4, by5)))
noncomputable def ref01_Bytes_L22 (r0 : Int) (out3 : List Int) (by5 : Int) : Tr (Lap (Int × List Int × Int) (List Int)) :=
  .br (decide (by5 > 1)) (
    .br ((IntKind.i64.wrap (by5.tdiv 64)) != 0) (
      .bnd (app 140737488355328 out3 ([IntKind.u8.wrap (IntKind.i64.wrap (128 + ((IntKind.i64.wrap (r0.tdiv (IntKind.i64.wrap (by5.tdiv 64)))).tmod 64)))])) fun r_3 =>
      .pure (.next (r0, r_3, IntKind.i64.wrap (by5.tdiv 64)))) (
      .fail)) (
    .pure (.done out3))
noncomputable def ref01_Bytes_T (r0 : Int) : Tr (List Int) :=
  .br (decide (r0 < 0)) (
    .br (decide (65533 < 128)) (
      .pure ([IntKind.u8.wrap 65533])) (
      .br (decide (65533 ≥ 2048)) (
        .br (decide (65533 ≥ 65536)) (
          .bnd (loopW (fun s => (ref01_Bytes_L13 s.1 s.2.1 s.2.2.1 s.2.2.2).run) (65533, 4, 1, 1)) fun l_1 =>
          .br (l_1.2.1 == 3) (
            .br (l_1.2.1 == 4) (
              .br (l_1.2.2 != 0) (
                .bnd (app 140737488355328 [] ([IntKind.u8.wrap (IntKind.i64.wrap (240 + (IntKind.i64.wrap (l_1.1.tdiv l_1.2.2))))])) fun r_2 =>
                .bnd (loopW (fun s => (ref01_Bytes_L22 s.1 s.2.1 s.2.2).run) (l_1.1, r_2, l_1.2.2)) fun l_4 =>
                .pure l_4) (
                .fail)) (
              .br (l_1.2.2 != 0) (
                .bnd (app 140737488355328 [] ([IntKind.u8.wrap (IntKind.i64.wrap (224 + (IntKind.i64.wrap (l_1.1.tdiv l_1.2.2))))])) fun r_5 =>
                .bnd (loopW (fun s => (ref01_Bytes_L22 s.1 s.2.1 s.2.2).run) (l_1.1, r_5, l_1.2.2)) fun l_6 =>
                .pure l_6) (
                .fail))) (
            .br (l_1.2.1 == 4) (
              .br (l_1.2.2 != 0) (
                .bnd (app 140737488355328 [] ([IntKind.u8.wrap (IntKind.i64.wrap (240 + (IntKind.i64.wrap (l_1.1.tdiv l_1.2.2))))])) fun r_7 =>
                .bnd (loopW (fun s => (ref01_Bytes_L22 s.1 s.2.1 s.2.2).run) (l_1.1, r_7, l_1.2.2)) fun l_8 =>
                .pure l_8) (
                .fail)) (
              .br (l_1.2.2 != 0) (
                .bnd (app 140737488355328 [] ([IntKind.u8.wrap (IntKind.i64.wrap (192 + (IntKind.i64.wrap (l_1.1.tdiv l_1.2.2))))])) fun r_9 =>
                .bnd (loopW (fun s => (ref01_Bytes_L22 s.1 s.2.1 s.2.2).run) (l_1.1, r_9, l_1.2.2)) fun l_10 =>
                .pure l_10) (
                .fail)))) (
          .bnd (loopW (fun s => (ref01_Bytes_L13 s.1 s.2.1 s.2.2.1 s.2.2.2).run) (65533, 3, 1, 1)) fun l_11 =>
          .br (l_11.2.1 == 3) (
            .br (l_11.2.1 == 4) (
              .br (l_11.2.2 != 0) (
                .bnd (app 140737488355328 [] ([IntKind.u8.wrap (IntKind.i64.wrap (240 + (IntKind.i64.wrap (l_11.1.tdiv l_11.2.2))))])) fun r_12 =>
                .bnd (loopW (fun s => (ref01_Bytes_L22 s.1 s.2.1 s.2.2).run) (l_11.1, r_12, l_11.2.2)) fun l_13 =>
                .pure l_13) (
                .fail)) (
              .br (l_11.2.2 != 0) (
                .bnd (app 140737488355328 [] ([IntKind.u8.wrap (IntKind.i64.wrap (224 + (IntKind.i64.wrap (l_11.1.tdiv l_11.2.2))))])) fun r_14 =>
                .bnd (loopW (fun s => (ref01_Bytes_L22 s.1 s.2.1 s.2.2).run) (l_11.1, r_14, l_11.2.2)) fun l_15 =>
                .pure l_15) (
                .fail))) (
            .br (l_11.2.1 == 4) (
              .br (l_11.2.2 != 0) (
                .bnd (app 140737488355328 [] ([IntKind.u8.wrap (IntKind.i64.wrap (240 + (IntKind.i64.wrap (l_11.1.tdiv l_11.2.2))))])) fun r_16 =>
                .bnd (loopW (fun s => (ref01_Bytes_L22 s.1 s.2.1 s.2.2).run) (l_11.1, r_16, l_11.2.2)) fun l_17 =>
                .pure l_17) (
                .fail)) (
              .br (l_11.2.2 != 0) (
                .bnd (app 140737488355328 [] ([IntKind.u8.wrap (IntKind.i64.wrap (192 + (IntKind.i64.wrap (l_11.1.tdiv l_11.2.2))))])) fun r_18 =>
                .bnd (loopW (fun s => (ref01_Bytes_L22 s.1 s.2.1 s.2.2).run) (l_11.1, r_18, l_11.2.2)) fun l_19 =>
                .pure l_19) (
                .fail))))) (
        .br (decide (65533 ≥ 65536)) (
          .bnd (loopW (fun s => (ref01_Bytes_L13 s.1 s.2.1 s.2.2.1 s.2.2.2).run) (65533, 4, 1, 1)) fun l_20 =>
          .br (l_20.2.1 == 3) (
            .br (l_20.2.1 == 4) (
              .br (l_20.2.2 != 0) (
                .bnd (app 140737488355328 [] ([IntKind.u8.wrap (IntKind.i64.wrap (240 + (IntKind.i64.wrap (l_20.1.tdiv l_20.2.2))))])) fun r_21 =>
                .bnd (loopW (fun s => (ref01_Bytes_L22 s.1 s.2.1 s.2.2).run) (l_20.1, r_21, l_20.2.2)) fun l_22 =>
                .pure l_22) (
                .fail)) (
              .br (l_20.2.2 != 0) (
                .bnd (app 140737488355328 [] ([IntKind.u8.wrap (IntKind.i64.wrap (224 + (IntKind.i64.wrap (l_20.1.tdiv l_20.2.2))))])) fun r_23 =>
                .bnd (loopW (fun s => (ref01_Bytes_L22 s.1 s.2.1 s.2.2).run) (l_20.1, r_23, l_20.2.2)) fun l_24 =>
                .pure l_24) (
                .fail))) (
            .br (l_20.2.1 == 4) (
              .br (l_20.2.2 != 0) (
                .bnd (app 140737488355328 [] ([IntKind.u8.wrap (IntKind.i64.wrap (240 + (IntKind.i64.wrap (l_20.1.tdiv l_20.2.2))))])) fun r_25 =>
                .bnd (loopW (fun s => (ref01_Bytes_L22 s.1 s.2.1 s.2.2).run) (l_20.1, r_25, l_20.2.2)) fun l_26 =>
                .pure l_26) (
                .fail)) (
              .br (l_20.2.2 != 0) (
                .bnd (app 140737488355328 [] ([IntKind.u8.wrap (IntKind.i64.wrap (192 + (IntKind.i64.wrap (l_20.1.tdiv l_20.2.2))))])) fun r_27 =>
                .bnd (loopW (fun s => (ref01_Bytes_L22 s.1 s.2.1 s.2.2).run) (l_20.1, r_27, l_20.2.2)) fun l_28 =>
                .pure l_28) (
                .fail)))) (
          .bnd (loopW (fun s => (ref01_Bytes_L13 s.1 s.2.1 s.2.2.1 s.2.2.2).run) (65533, 2, 1, 1)) fun l_29 =>
          .br (l_29.2.1 == 3) (
            .br (l_29.2.1 == 4) (
              .br (l_29.2.2 != 0) (
                .bnd (app 140737488355328 [] ([IntKind.u8.wrap (IntKind.i64.wrap (240 + (IntKind.i64.wrap (l_29.1.tdiv l_29.2.2))))])) fun r_30 =>
                .bnd (loopW (fun s => (ref01_Bytes_L22 s.1 s.2.1 s.2.2).run) (l_29.1, r_30, l_29.2.2)) fun l_31 =>
                .pure l_31) (
                .fail)) (
              .br (l_29.2.2 != 0) (
                .bnd (app 140737488355328 [] ([IntKind.u8.wrap (IntKind.i64.wrap (224 + (IntKind.i64.wrap (l_29.1.tdiv l_29.2.2))))])) fun r_32 =>
                .bnd (loopW (fun s => (ref01_Bytes_L22 s.1 s.2.1 s.2.2).run) (l_29.1, r_32, l_29.2.2)) fun l_33 =>
                .pure l_33) (
                .fail))) (
            .br (l_29.2.1 == 4) (
              .br (l_29.2.2 != 0) (
                .bnd (app 140737488355328 [] ([IntKind.u8.wrap (IntKind.i64.wrap (240 + (IntKind.i64.wrap (l_29.1.tdiv l_29.2.2))))])) fun r_34 =>
                .bnd (loopW (fun s => (ref01_Bytes_L22 s.1 s.2.1 s.2.2).run) (l_29.1, r_34, l_29.2.2)) fun l_35 =>
                .pure l_35) (
                .fail)) (
              .br (l_29.2.2 != 0) (
                .bnd (app 140737488355328 [] ([IntKind.u8.wrap (IntKind.i64.wrap (192 + (IntKind.i64.wrap (l_29.1.tdiv l_29.2.2))))])) fun r_36 =>
                .bnd (loopW (fun s => (ref01_Bytes_L22 s.1 s.2.1 s.2.2).run) (l_29.1, r_36, l_29.2.2)) fun l_37 =>
                .pure l_37) (
                .fail))))))) (
    .br (decide (r0 > 1114111)) (
      .br (decide (65533 < 128)) (
        .pure ([IntKind.u8.wrap 65533])) (
        .br (decide (65533 ≥ 2048)) (
          .br (decide (65533 ≥ 65536)) (
            .bnd (loopW (fun s => (ref01_Bytes_L13 s.1 s.2.1 s.2.2.1 s.2.2.2).run) (65533, 4, 1, 1)) fun l_38 =>
            .br (l_38.2.1 == 3) (
              .br (l_38.2.1 == 4) (
                .br (l_38.2.2 != 0) (
                  .bnd (app 140737488355328 [] ([IntKind.u8.wrap (IntKind.i64.wrap (240 + (IntKind.i64.wrap (l_38.1.tdiv l_38.2.2))))])) fun r_39 =>
                  .bnd (loopW (fun s => (ref01_Bytes_L22 s.1 s.2.1 s.2.2).run) (l_38.1, r_39, l_38.2.2)) fun l_40 =>
                  .pure l_40) (
                  .fail)) (
                .br (l_38.2.2 != 0) (
                  .bnd (app 140737488355328 [] ([IntKind.u8.wrap (IntKind.i64.wrap (224 + (IntKind.i64.wrap (l_38.1.tdiv l_38.2.2))))])) fun r_41 =>
                  .bnd (loopW (fun s => (ref01_Bytes_L22 s.1 s.2.1 s.2.2).run) (l_38.1, r_41, l_38.2.2)) fun l_42 =>
                  .pure l_42) (
                  .fail))) (
              .br (l_38.2.1 == 4) (
                .br (l_38.2.2 != 0) (
                  .bnd (app 140737488355328 [] ([IntKind.u8.wrap (IntKind.i64.wrap (240 + (IntKind.i64.wrap (l_38.1.tdiv l_38.2.2))))])) fun r_43 =>
                  .bnd (loopW (fun s => (ref01_Bytes_L22 s.1 s.2.1 s.2.2).run) (l_38.1, r_43, l_38.2.2)) fun l_44 =>
                  .pure l_44) (
                  .fail)) (
                .br (l_38.2.2 != 0) (
                  .bnd (app 140737488355328 [] ([IntKind.u8.wrap (IntKind.i64.wrap (192 + (IntKind.i64.wrap (l_38.1.tdiv l_38.2.2))))])) fun r_45 =>
                  .bnd (loopW (fun s => (ref01_Bytes_L22 s.1 s.2.1 s.2.2).run) (l_38.1, r_45, l_38.2.2)) fun l_46 =>
                  .pure l_46) (
                  .fail)))) (
            .bnd (loopW (fun s => (ref01_Bytes_L13 s.1 s.2.1 s.2.2.1 s.2.2.2).run) (65533, 3, 1, 1)) fun l_47 =>
            .br (l_47.2.1 == 3) (
              .br (l_47.2.1 == 4) (
                .br (l_47.2.2 != 0) (
                  .bnd (app 140737488355328 [] ([IntKind.u8.wrap (IntKind.i64.wrap (240 + (IntKind.i64.wrap (l_47.1.tdiv l_47.2.2))))])) fun r_48 =>
                  .bnd (loopW (fun s => (ref01_Bytes_L22 s.1 s.2.1 s.2.2).run) (l_47.1, r_48, l_47.2.2)) fun l_49 =>
                  .pure l_49) (
                  .fail)) (
                .br (l_47.2.2 != 0) (
                  .bnd (app 140737488355328 [] ([IntKind.u8.wrap (IntKind.i64.wrap (224 + (IntKind.i64.wrap (l_47.1.tdiv l_47.2.2))))])) fun r_50 =>
                  .bnd (loopW (fun s => (ref01_Bytes_L22 s.1 s.2.1 s.2.2).run) (l_47.1, r_50, l_47.2.2)) fun l_51 =>
                  .pure l_51) (
                  .fail))) (
              .br (l_47.2.1 == 4) (
                .br (l_47.2.2 != 0) (
                  .bnd (app 140737488355328 [] ([IntKind.u8.wrap (IntKind.i64.wrap (240 + (IntKind.i64.wrap (l_47.1.tdiv l_47.2.2))))])) fun r_52 =>
                  .bnd (loopW (fun s => (ref01_Bytes_L22 s.1 s.2.1 s.2.2).run) (l_47.1, r_52, l_47.2.2)) fun l_53 =>
                  .pure l_53) (
                  .fail)) (
                .br (l_47.2.2 != 0) (
                  .bnd (app 140737488355328 [] ([IntKind.u8.wrap (IntKind.i64.wrap (192 + (IntKind.i64.wrap (l_47.1.tdiv l_47.2.2))))])) fun r_54 =>
                  .bnd (loopW (fun s => (ref01_Bytes_L22 s.1 s.2.1 s.2.2).run) (l_47.1, r_54, l_47.2.2)) fun l_55 =>
                  .pure l_55) (
                  .fail))))) (
          .br (decide (65533 ≥ 65536)) (
            .bnd (loopW (fun s => (ref01_Bytes_L13 s.1 s.2.1 s.2.2.1 s.2.2.2).run) (65533, 4, 1, 1)) fun l_56 =>
            .br (l_56.2.1 == 3) (
              .br (l_56.2.1 == 4) (
                .br (l_56.2.2 != 0) (
                  .bnd (app 140737488355328 [] ([IntKind.u8.wrap (IntKind.i64.wrap (240 + (IntKind.i64.wrap (l_56.1.tdiv l_56.2.2))))])) fun r_57 =>
                  .bnd (loopW (fun s => (ref01_Bytes_L22 s.1 s.2.1 s.2.2).run) (l_56.1, r_57, l_56.2.2)) fun l_58 =>
                  .pure l_58) (
                  .fail)) (
                .br (l_56.2.2 != 0) (
                  .bnd (app 140737488355328 [] ([IntKind.u8.wrap (IntKind.i64.wrap (224 + (IntKind.i64.wrap (l_56.1.tdiv l_56.2.2))))])) fun r_59 =>
                  .bnd (loopW (fun s => (ref01_Bytes_L22 s.1 s.2.1 s.2.2).run) (l_56.1, r_59, l_56.2.2)) fun l_60 =>
                  .pure l_60) (
                  .fail))) (
              .br (l_56.2.1 == 4) (
                .br (l_56.2.2 != 0) (
                  .bnd (app 140737488355328 [] ([IntKind.u8.wrap (IntKind.i64.wrap (240 + (IntKind.i64.wrap (l_56.1.tdiv l_56.2.2))))])) fun r_61 =>
                  .bnd (loopW (fun s => (ref01_Bytes_L22 s.1 s.2.1 s.2.2).run) (l_56.1, r_61, l_56.2.2)) fun l_62 =>
                  .pure l_62) (
                  .fail)) (
                .br (l_56.2.2 != 0) (
                  .bnd (app 140737488355328 [] ([IntKind.u8.wrap (IntKind.i64.wrap (192 + (IntKind.i64.wrap (l_56.1.tdiv l_56.2.2))))])) fun r_63 =>
                  .bnd (loopW (fun s => (ref01_Bytes_L22 s.1 s.2.1 s.2.2).run) (l_56.1, r_63, l_56.2.2)) fun l_64 =>
                  .pure l_64) (
                  .fail)))) (
            .bnd (loopW (fun s => (ref01_Bytes_L13 s.1 s.2.1 s.2.2.1 s.2.2.2).run) (65533, 2, 1, 1)) fun l_65 =>
            .br (l_65.2.1 == 3) (
              .br (l_65.2.1 == 4) (
                .br (l_65.2.2 != 0) (
                  .bnd (app 140737488355328 [] ([IntKind.u8.wrap (IntKind.i64.wrap (240 + (IntKind.i64.wrap (l_65.1.tdiv l_65.2.2))))])) fun r_66 =>
                  .bnd (loopW (fun s => (ref01_Bytes_L22 s.1 s.2.1 s.2.2).run) (l_65.1, r_66, l_65.2.2)) fun l_67 =>
                  .pure l_67) (
                  .fail)) (
                .br (l_65.2.2 != 0) (
                  .bnd (app 140737488355328 [] ([IntKind.u8.wrap (IntKind.i64.wrap (224 + (IntKind.i64.wrap (l_65.1.tdiv l_65.2.2))))])) fun r_68 =>
                  .bnd (loopW (fun s => (ref01_Bytes_L22 s.1 s.2.1 s.2.2).run) (l_65.1, r_68, l_65.2.2)) fun l_69 =>
                  .pure l_69) (
                  .fail))) (
              .br (l_65.2.1 == 4) (
                .br (l_65.2.2 != 0) (
                  .bnd (app 140737488355328 [] ([IntKind.u8.wrap (IntKind.i64.wrap (240 + (IntKind.i64.wrap (l_65.1.tdiv l_65.2.2))))])) fun r_70 =>
                  .bnd (loopW (fun s => (ref01_Bytes_L22 s.1 s.2.1 s.2.2).run) (l_65.1, r_70, l_65.2.2)) fun l_71 =>
                  .pure l_71) (
                  .fail)) (
                .br (l_65.2.2 != 0) (
                  .bnd (app 140737488355328 [] ([IntKind.u8.wrap (IntKind.i64.wrap (192 + (IntKind.i64.wrap (l_65.1.tdiv l_65.2.2))))])) fun r_72 =>
                  .bnd (loopW (fun s => (ref01_Bytes_L22 s.1 s.2.1 s.2.2).run) (l_65.1, r_72, l_65.2.2)) fun l_73 =>
                  .pure l_73) (
                  .fail))))))) (
      .br (decide (r0 ≥ 55296)) (
        .br (decide (r0 ≤ 57343)) (
          .br (decide (65533 < 128)) (
            .pure ([IntKind.u8.wrap 65533])) (
            .br (decide (65533 ≥ 2048)) (
              .br (decide (65533 ≥ 65536)) (
                .bnd (loopW (fun s => (ref01_Bytes_L13 s.1 s.2.1 s.2.2.1 s.2.2.2).run) (65533, 4, 1, 1)) fun l_74 =>
                .br (l_74.2.1 == 3) (
                  .br (l_74.2.1 == 4) (
                    .br (l_74.2.2 != 0) (
                      .bnd (app 140737488355328 [] ([IntKind.u8.wrap (IntKind.i64.wrap (240 + (IntKind.i64.wrap (l_74.1.tdiv l_74.2.2))))])) fun r_75 =>
                      .bnd (loopW (fun s => (ref01_Bytes_L22 s.1 s.2.1 s.2.2).run) (l_74.1, r_75, l_74.2.2)) fun l_76 =>
                      .pure l_76) (
                      .fail)) (
                    .br (l_74.2.2 != 0) (
                      .bnd (app 140737488355328 [] ([IntKind.u8.wrap (IntKind.i64.wrap (224 + (IntKind.i64.wrap (l_74.1.tdiv l_74.2.2))))])) fun r_77 =>
                      .bnd (loopW (fun s => (ref01_Bytes_L22 s.1 s.2.1 s.2.2).run) (l_74.1, r_77, l_74.2.2)) fun l_78 =>
                      .pure l_78) (
                      .fail))) (
                  .br (l_74.2.1 == 4) (
                    .br (l_74.2.2 != 0) (
                      .bnd (app 140737488355328 [] ([IntKind.u8.wrap (IntKind.i64.wrap (240 + (IntKind.i64.wrap (l_74.1.tdiv l_74.2.2))))])) fun r_79 =>
                      .bnd (loopW (fun s => (ref01_Bytes_L22 s.1 s.2.1 s.2.2).run) (l_74.1, r_79, l_74.2.2)) fun l_80 =>
                      .pure l_80) (
                      .fail)) (
                    .br (l_74.2.2 != 0) (
                      .bnd (app 140737488355328 [] ([IntKind.u8.wrap (IntKind.i64.wrap (192 + (IntKind.i64.wrap (l_74.1.tdiv l_74.2.2))))])) fun r_81 =>
                      .bnd (loopW (fun s => (ref01_Bytes_L22 s.1 s.2.1 s.2.2).run) (l_74.1, r_81, l_74.2.2)) fun l_82 =>
                      .pure l_82) (
                      .fail)))) (
                .bnd (loopW (fun s => (ref01_Bytes_L13 s.1 s.2.1 s.2.2.1 s.2.2.2).run) (65533, 3, 1, 1)) fun l_83 =>
                .br (l_83.2.1 == 3) (
                  .br (l_83.2.1 == 4) (
                    .br (l_83.2.2 != 0) (
                      .bnd (app 140737488355328 [] ([IntKind.u8.wrap (IntKind.i64.wrap (240 + (IntKind.i64.wrap (l_83.1.tdiv l_83.2.2))))])) fun r_84 =>
                      .bnd (loopW (fun s => (ref01_Bytes_L22 s.1 s.2.1 s.2.2).run) (l_83.1, r_84, l_83.2.2)) fun l_85 =>
                      .pure l_85) (
                      .fail)) (
                    .br (l_83.2.2 != 0) (
                      .bnd (app 140737488355328 [] ([IntKind.u8.wrap (IntKind.i64.wrap (224 + (IntKind.i64.wrap (l_83.1.tdiv l_83.2.2))))])) fun r_86 =>
                      .bnd (loopW (fun s => (ref01_Bytes_L22 s.1 s.2.1 s.2.2).run) (l_83.1, r_86, l_83.2.2)) fun l_87 =>
                      .pure l_87) (
                      .fail))) (
                  .br (l_83.2.1 == 4) (
                    .br (l_83.2.2 != 0) (
                      .bnd (app 140737488355328 [] ([IntKind.u8.wrap (IntKind.i64.wrap (240 + (IntKind.i64.wrap (l_83.1.tdiv l_83.2.2))))])) fun r_88 =>
                      .bnd (loopW (fun s => (ref01_Bytes_L22 s.1 s.2.1 s.2.2).run) (l_83.1, r_88, l_83.2.2)) fun l_89 =>
                      .pure l_89) (
                      .fail)) (
                    .br (l_83.2.2 != 0) (
                      .bnd (app 140737488355328 [] ([IntKind.u8.wrap (IntKind.i64.wrap (192 + (IntKind.i64.wrap (l_83.1.tdiv l_83.2.2))))])) fun r_90 =>
                      .bnd (loopW (fun s => (ref01_Bytes_L22 s.1 s.2.1 s.2.2).run) (l_83.1, r_90, l_83.2.2)) fun l_91 =>
                      .pure l_91) (
                      .fail))))) (
              .br (decide (65533 ≥ 65536)) (
                .bnd (loopW (fun s => (ref01_Bytes_L13 s.1 s.2.1 s.2.2.1 s.2.2.2).run) (65533, 4, 1, 1)) fun l_92 =>
                .br (l_92.2.1 == 3) (
                  .br (l_92.2.1 == 4) (
                    .br (l_92.2.2 != 0) (
                      .bnd (app 140737488355328 [] ([IntKind.u8.wrap (IntKind.i64.wrap (240 + (IntKind.i64.wrap (l_92.1.tdiv l_92.2.2))))])) fun r_93 =>
                      .bnd (loopW (fun s => (ref01_Bytes_L22 s.1 s.2.1 s.2.2).run) (l_92.1, r_93, l_92.2.2)) fun l_94 =>
                      .pure l_94) (
                      .fail)) (
                    .br (l_92.2.2 != 0) (
                      .bnd (app 140737488355328 [] ([IntKind.u8.wrap (IntKind.i64.wrap (224 + (IntKind.i64.wrap (l_92.1.tdiv l_92.2.2))))])) fun r_95 =>
                      .bnd (loopW (fun s => (ref01_Bytes_L22 s.1 s.2.1 s.2.2).run) (l_92.1, r_95, l_92.2.2)) fun l_96 =>
                      .pure l_96) (
                      .fail))) (
                  .br (l_92.2.1 == 4) (
                    .br (l_92.2.2 != 0) (
                      .bnd (app 140737488355328 [] ([IntKind.u8.wrap (IntKind.i64.wrap (240 + (IntKind.i64.wrap (l_92.1.tdiv l_92.2.2))))])) fun r_97 =>
                      .bnd (loopW (fun s => (ref01_Bytes_L22 s.1 s.2.1 s.2.2).run) (l_92.1, r_97, l_92.2.2)) fun l_98 =>
                      .pure l_98) (
                      .fail)) (
                    .br (l_92.2.2 != 0) (
                      .bnd (app 140737488355328 [] ([IntKind.u8.wrap (IntKind.i64.wrap (192 + (IntKind.i64.wrap (l_92.1.tdiv l_92.2.2))))])) fun r_99 =>
                      .bnd (loopW (fun s => (ref01_Bytes_L22 s.1 s.2.1 s.2.2).run) (l_92.1, r_99, l_92.2.2)) fun l_100 =>
                      .pure l_100) (
                      .fail)))) (
                .bnd (loopW (fun s => (ref01_Bytes_L13 s.1 s.2.1 s.2.2.1 s.2.2.2).run) (65533, 2, 1, 1)) fun l_101 =>
                .br (l_101.2.1 == 3) (
                  .br (l_101.2.1 == 4) (
                    .br (l_101.2.2 != 0) (
                      .bnd (app 140737488355328 [] ([IntKind.u8.wrap (IntKind.i64.wrap (240 + (IntKind.i64.wrap (l_101.1.tdiv l_101.2.2))))])) fun r_102 =>
                      .bnd (loopW (fun s => (ref01_Bytes_L22 s.1 s.2.1 s.2.2).run) (l_101.1, r_102, l_101.2.2)) fun l_103 =>
                      .pure l_103) (
                      .fail)) (
                    .br (l_101.2.2 != 0) (
                      .bnd (app 140737488355328 [] ([IntKind.u8.wrap (IntKind.i64.wrap (224 + (IntKind.i64.wrap (l_101.1.tdiv l_101.2.2))))])) fun r_104 =>
                      .bnd (loopW (fun s => (ref01_Bytes_L22 s.1 s.2.1 s.2.2).run) (l_101.1, r_104, l_101.2.2)) fun l_105 =>
                      .pure l_105) (
                      .fail))) (
                  .br (l_101.2.1 == 4) (
                    .br (l_101.2.2 != 0) (
                      .bnd (app 140737488355328 [] ([IntKind.u8.wrap (IntKind.i64.wrap (240 + (IntKind.i64.wrap (l_101.1.tdiv l_101.2.2))))])) fun r_106 =>
                      .bnd (loopW (fun s => (ref01_Bytes_L22 s.1 s.2.1 s.2.2).run) (l_101.1, r_106, l_101.2.2)) fun l_107 =>
                      .pure l_107) (
                      .fail)) (
                    .br (l_101.2.2 != 0) (
                      .bnd (app 140737488355328 [] ([IntKind.u8.wrap (IntKind.i64.wrap (192 + (IntKind.i64.wrap (l_101.1.tdiv l_101.2.2))))])) fun r_108 =>
                      .bnd (loopW (fun s => (ref01_Bytes_L22 s.1 s.2.1 s.2.2).run) (l_101.1, r_108, l_101.2.2)) fun l_109 =>
                      .pure l_109) (
                      .fail))))))) (
          .br (decide (r0 < 128)) (
            .pure ([IntKind.u8.wrap r0])) (
            .br (decide (r0 ≥ 2048)) (
              .br (decide (r0 ≥ 65536)) (
                .bnd (loopW (fun s => (ref01_Bytes_L13 s.1 s.2.1 s.2.2.1 s.2.2.2).run) (r0, 4, 1, 1)) fun l_110 =>
                .br (l_110.2.1 == 3) (
                  .br (l_110.2.1 == 4) (
                    .br (l_110.2.2 != 0) (
                      .bnd (app 140737488355328 [] ([IntKind.u8.wrap (IntKind.i64.wrap (240 + (IntKind.i64.wrap (l_110.1.tdiv l_110.2.2))))])) fun r_111 =>
                      .bnd (loopW (fun s => (ref01_Bytes_L22 s.1 s.2.1 s.2.2).run) (l_110.1, r_111, l_110.2.2)) fun l_112 =>
                      .pure l_112) (
                      .fail)) (
                    .br (l_110.2.2 != 0) (
                      .bnd (app 140737488355328 [] ([IntKind.u8.wrap (IntKind.i64.wrap (224 + (IntKind.i64.wrap (l_110.1.tdiv l_110.2.2))))])) fun r_113 =>
                      .bnd (loopW (fun s => (ref01_Bytes_L22 s.1 s.2.1 s.2.2).run) (l_110.1, r_113, l_110.2.2)) fun l_114 =>
                      .pure l_114) (
                      .fail))) (
                  .br (l_110.2.1 == 4) (
                    .br (l_110.2.2 != 0) (
                      .bnd (app 140737488355328 [] ([IntKind.u8.wrap (IntKind.i64.wrap (240 + (IntKind.i64.wrap (l_110.1.tdiv l_110.2.2))))])) fun r_115 =>
                      .bnd (loopW (fun s => (ref01_Bytes_L22 s.1 s.2.1 s.2.2).run) (l_110.1, r_115, l_110.2.2)) fun l_116 =>
                      .pure l_116) (
                      .fail)) (
                    .br (l_110.2.2 != 0) (
                      .bnd (app 140737488355328 [] ([IntKind.u8.wrap (IntKind.i64.wrap (192 + (IntKind.i64.wrap (l_110.1.tdiv l_110.2.2))))])) fun r_117 =>
                      .bnd (loopW (fun s => (ref01_Bytes_L22 s.1 s.2.1 s.2.2).run) (l_110.1, r_117, l_110.2.2)) fun l_118 =>
                      .pure l_118) (
                      .fail)))) (
                .bnd (loopW (fun s => (ref01_Bytes_L13 s.1 s.2.1 s.2.2.1 s.2.2.2).run) (r0, 3, 1, 1)) fun l_119 =>
                .br (l_119.2.1 == 3) (
                  .br (l_119.2.1 == 4) (
                    .br (l_119.2.2 != 0) (
                      .bnd (app 140737488355328 [] ([IntKind.u8.wrap (IntKind.i64.wrap (240 + (IntKind.i64.wrap (l_119.1.tdiv l_119.2.2))))])) fun r_120 =>
                      .bnd (loopW (fun s => (ref01_Bytes_L22 s.1 s.2.1 s.2.2).run) (l_119.1, r_120, l_119.2.2)) fun l_121 =>
                      .pure l_121) (
                      .fail)) (
                    .br (l_119.2.2 != 0) (
                      .bnd (app 140737488355328 [] ([IntKind.u8.wrap (IntKind.i64.wrap (224 + (IntKind.i64.wrap (l_119.1.tdiv l_119.2.2))))])) fun r_122 =>
                      .bnd (loopW (fun s => (ref01_Bytes_L22 s.1 s.2.1 s.2.2).run) (l_119.1, r_122, l_119.2.2)) fun l_123 =>
                      .pure l_123) (
                      .fail))) (
                  .br (l_119.2.1 == 4) (
                    .br (l_119.2.2 != 0) (
                      .bnd (app 140737488355328 [] ([IntKind.u8.wrap (IntKind.i64.wrap (240 + (IntKind.i64.wrap (l_119.1.tdiv l_119.2.2))))])) fun r_124 =>
                      .bnd (loopW (fun s => (ref01_Bytes_L22 s.1 s.2.1 s.2.2).run) (l_119.1, r_124, l_119.2.2)) fun l_125 =>
                      .pure l_125) (
                      .fail)) (
                    .br (l_119.2.2 != 0) (
                      .bnd (app 140737488355328 [] ([IntKind.u8.wrap (IntKind.i64.wrap (192 + (IntKind.i64.wrap (l_119.1.tdiv l_119.2.2))))])) fun r_126 =>
                      .bnd (loopW (fun s => (ref01_Bytes_L22 s.1 s.2.1 s.2.2).run) (l_119.1, r_126, l_119.2.2)) fun l_127 =>
                      .pure l_127) (
                      .fail))))) (
              .br (decide (r0 ≥ 65536)) (
                .bnd (loopW (fun s => (ref01_Bytes_L13 s.1 s.2.1 s.2.2.1 s.2.2.2).run) (r0, 4, 1, 1)) fun l_128 =>
                .br (l_128.2.1 == 3) (
                  .br (l_128.2.1 == 4) (
                    .br (l_128.2.2 != 0) (
                      .bnd (app 140737488355328 [] ([IntKind.u8.wrap (IntKind.i64.wrap (240 + (IntKind.i64.wrap (l_128.1.tdiv l_128.2.2))))])) fun r_129 =>
                      .bnd (loopW (fun s => (ref01_Bytes_L22 s.1 s.2.1 s.2.2).run) (l_128.1, r_129, l_128.2.2)) fun l_130 =>
                      .pure l_130) (
                      .fail)) (
                    .br (l_128.2.2 != 0) (
                      .bnd (app 140737488355328 [] ([IntKind.u8.wrap (IntKind.i64.wrap (224 + (IntKind.i64.wrap (l_128.1.tdiv l_128.2.2))))])) fun r_131 =>
                      .bnd (loopW (fun s => (ref01_Bytes_L22 s.1 s.2.1 s.2.2).run) (l_128.1, r_131, l_128.2.2)) fun l_132 =>
                      .pure l_132) (
                      .fail))) (
                  .br (l_128.2.1 == 4) (
                    .br (l_128.2.2 != 0) (
                      .bnd (app 140737488355328 [] ([IntKind.u8.wrap (IntKind.i64.wrap (240 + (IntKind.i64.wrap (l_128.1.tdiv l_128.2.2))))])) fun r_133 =>
                      .bnd (loopW (fun s => (ref01_Bytes_L22 s.1 s.2.1 s.2.2).run) (l_128.1, r_133, l_128.2.2)) fun l_134 =>
                      .pure l_134) (
                      .fail)) (
                    .br (l_128.2.2 != 0) (
                      .bnd (app 140737488355328 [] ([IntKind.u8.wrap (IntKind.i64.wrap (192 + (IntKind.i64.wrap (l_128.1.tdiv l_128.2.2))))])) fun r_135 =>
                      .bnd (loopW (fun s => (ref01_Bytes_L22 s.1 s.2.1 s.2.2).run) (l_128.1, r_135, l_128.2.2)) fun l_136 =>
                      .pure l_136) (
                      .fail)))) (
                .bnd (loopW (fun s => (ref01_Bytes_L13 s.1 s.2.1 s.2.2.1 s.2.2.2).run) (r0, 2, 1, 1)) fun l_137 =>
                .br (l_137.2.1 == 3) (
                  .br (l_137.2.1 == 4) (
                    .br (l_137.2.2 != 0) (
                      .bnd (app 140737488355328 [] ([IntKind.u8.wrap (IntKind.i64.wrap (240 + (IntKind.i64.wrap (l_137.1.tdiv l_137.2.2))))])) fun r_138 =>
                      .bnd (loopW (fun s => (ref01_Bytes_L22 s.1 s.2.1 s.2.2).run) (l_137.1, r_138, l_137.2.2)) fun l_139 =>
                      .pure l_139) (
                      .fail)) (
                    .br (l_137.2.2 != 0) (
                      .bnd (app 140737488355328 [] ([IntKind.u8.wrap (IntKind.i64.wrap (224 + (IntKind.i64.wrap (l_137.1.tdiv l_137.2.2))))])) fun r_140 =>
                      .bnd (loopW (fun s => (ref01_Bytes_L22 s.1 s.2.1 s.2.2).run) (l_137.1, r_140, l_137.2.2)) fun l_141 =>
                      .pure l_141) (
                      .fail))) (
                  .br (l_137.2.1 == 4) (
                    .br (l_137.2.2 != 0) (
                      .bnd (app 140737488355328 [] ([IntKind.u8.wrap (IntKind.i64.wrap (240 + (IntKind.i64.wrap (l_137.1.tdiv l_137.2.2))))])) fun r_142 =>
                      .bnd (loopW (fun s => (ref01_Bytes_L22 s.1 s.2.1 s.2.2).run) (l_137.1, r_142, l_137.2.2)) fun l_143 =>
                      .pure l_143) (
                      .fail)) (
                    .br (l_137.2.2 != 0) (
                      .bnd (app 140737488355328 [] ([IntKind.u8.wrap (IntKind.i64.wrap (192 + (IntKind.i64.wrap (l_137.1.tdiv l_137.2.2))))])) fun r_144 =>
                      .bnd (loopW (fun s => (ref01_Bytes_L22 s.1 s.2.1 s.2.2).run) (l_137.1, r_144, l_137.2.2)) fun l_145 =>
                      .pure l_145) (
                      .fail)))))))) (
        .br (decide (r0 < 128)) (
          .pure ([IntKind.u8.wrap r0])) (
          .br (decide (r0 ≥ 2048)) (
            .br (decide (r0 ≥ 65536)) (
              .bnd (loopW (fun s => (ref01_Bytes_L13 s.1 s.2.1 s.2.2.1 s.2.2.2).run) (r0, 4, 1, 1)) fun l_146 =>
              .br (l_146.2.1 == 3) (
                .br (l_146.2.1 == 4) (
                  .br (l_146.2.2 != 0) (
                    .bnd (app 140737488355328 [] ([IntKind.u8.wrap (IntKind.i64.wrap (240 + (IntKind.i64.wrap (l_146.1.tdiv l_146.2.2))))])) fun r_147 =>
                    .bnd (loopW (fun s => (ref01_Bytes_L22 s.1 s.2.1 s.2.2).run) (l_146.1, r_147, l_146.2.2)) fun l_148 =>
                    .pure l_148) (
                    .fail)) (
                  .br (l_146.2.2 != 0) (
                    .bnd (app 140737488355328 [] ([IntKind.u8.wrap (IntKind.i64.wrap (224 + (IntKind.i64.wrap (l_146.1.tdiv l_146.2.2))))])) fun r_149 =>
                    .bnd (loopW (fun s => (ref01_Bytes_L22 s.1 s.2.1 s.2.2).run) (l_146.1, r_149, l_146.2.2)) fun l_150 =>
                    .pure l_150) (
                    .fail))) (
                .br (l_146.2.1 == 4) (
                  .br (l_146.2.2 != 0) (
                    .bnd (app 140737488355328 [] ([IntKind.u8.wrap (IntKind.i64.wrap (240 + (IntKind.i64.wrap (l_146.1.tdiv l_146.2.2))))])) fun r_151 =>
                    .bnd (loopW (fun s => (ref01_Bytes_L22 s.1 s.2.1 s.2.2).run) (l_146.1, r_151, l_146.2.2)) fun l_152 =>
                    .pure l_152) (
                    .fail)) (
                  .br (l_146.2.2 != 0) (
                    .bnd (app 140737488355328 [] ([IntKind.u8.wrap (IntKind.i64.wrap (192 + (IntKind.i64.wrap (l_146.1.tdiv l_146.2.2))))])) fun r_153 =>
                    .bnd (loopW (fun s => (ref01_Bytes_L22 s.1 s.2.1 s.2.2).run) (l_146.1, r_153, l_146.2.2)) fun l_154 =>
                    .pure l_154) (
                    .fail)))) (
              .bnd (loopW (fun s => (ref01_Bytes_L13 s.1 s.2.1 s.2.2.1 s.2.2.2).run) (r0, 3, 1, 1)) fun l_155 =>
              .br (l_155.2.1 == 3) (
                .br (l_155.2.1 == 4) (
                  .br (l_155.2.2 != 0) (
                    .bnd (app 140737488355328 [] ([IntKind.u8.wrap (IntKind.i64.wrap (240 + (IntKind.i64.wrap (l_155.1.tdiv l_155.2.2))))])) fun r_156 =>
                    .bnd (loopW (fun s => (ref01_Bytes_L22 s.1 s.2.1 s.2.2).run) (l_155.1, r_156, l_155.2.2)) fun l_157 =>
                    .pure l_157) (
                    .fail)) (
                  .br (l_155.2.2 != 0) (
                    .bnd (app 140737488355328 [] ([IntKind.u8.wrap (IntKind.i64.wrap (224 + (IntKind.i64.wrap (l_155.1.tdiv l_155.2.2))))])) fun r_158 =>
                    .bnd (loopW (fun s => (ref01_Bytes_L22 s.1 s.2.1 s.2.2).run) (l_155.1, r_158, l_155.2.2)) fun l_159 =>
                    .pure l_159) (
                    .fail))) (
                .br (l_155.2.1 == 4) (
                  .br (l_155.2.2 != 0) (
                    .bnd (app 140737488355328 [] ([IntKind.u8.wrap (IntKind.i64.wrap (240 + (IntKind.i64.wrap (l_155.1.tdiv l_155.2.2))))])) fun r_160 =>
                    .bnd (loopW (fun s => (ref01_Bytes_L22 s.1 s.2.1 s.2.2).run) (l_155.1, r_160, l_155.2.2)) fun l_161 =>
                    .pure l_161) (
                    .fail)) (
                  .br (l_155.2.2 != 0) (
                    .bnd (app 140737488355328 [] ([IntKind.u8.wrap (IntKind.i64.wrap (192 + (IntKind.i64.wrap (l_155.1.tdiv l_155.2.2))))])) fun r_162 =>
                    .bnd (loopW (fun s => (ref01_Bytes_L22 s.1 s.2.1 s.2.2).run) (l_155.1, r_162, l_155.2.2)) fun l_163 =>
                    .pure l_163) (
                    .fail))))) (
            .br (decide (r0 ≥ 65536)) (
              .bnd (loopW (fun s => (ref01_Bytes_L13 s.1 s.2.1 s.2.2.1 s.2.2.2).run) (r0, 4, 1, 1)) fun l_164 =>
              .br (l_164.2.1 == 3) (
                .br (l_164.2.1 == 4) (
                  .br (l_164.2.2 != 0) (
                    .bnd (app 140737488355328 [] ([IntKind.u8.wrap (IntKind.i64.wrap (240 + (IntKind.i64.wrap (l_164.1.tdiv l_164.2.2))))])) fun r_165 =>
                    .bnd (loopW (fun s => (ref01_Bytes_L22 s.1 s.2.1 s.2.2).run) (l_164.1, r_165, l_164.2.2)) fun l_166 =>
                    .pure l_166) (
                    .fail)) (
                  .br (l_164.2.2 != 0) (
                    .bnd (app 140737488355328 [] ([IntKind.u8.wrap (IntKind.i64.wrap (224 + (IntKind.i64.wrap (l_164.1.tdiv l_164.2.2))))])) fun r_167 =>
                    .bnd (loopW (fun s => (ref01_Bytes_L22 s.1 s.2.1 s.2.2).run) (l_164.1, r_167, l_164.2.2)) fun l_168 =>
                    .pure l_168) (
                    .fail))) (
                .br (l_164.2.1 == 4) (
                  .br (l_164.2.2 != 0) (
                    .bnd (app 140737488355328 [] ([IntKind.u8.wrap (IntKind.i64.wrap (240 + (IntKind.i64.wrap (l_164.1.tdiv l_164.2.2))))])) fun r_169 =>
                    .bnd (loopW (fun s => (ref01_Bytes_L22 s.1 s.2.1 s.2.2).run) (l_164.1, r_169, l_164.2.2)) fun l_170 =>
                    .pure l_170) (
                    .fail)) (
                  .br (l_164.2.2 != 0) (
                    .bnd (app 140737488355328 [] ([IntKind.u8.wrap (IntKind.i64.wrap (192 + (IntKind.i64.wrap (l_164.1.tdiv l_164.2.2))))])) fun r_171 =>
                    .bnd (loopW (fun s => (ref01_Bytes_L22 s.1 s.2.1 s.2.2).run) (l_164.1, r_171, l_164.2.2)) fun l_172 =>
                    .pure l_172) (
                    .fail)))) (
              .bnd (loopW (fun s => (ref01_Bytes_L13 s.1 s.2.1 s.2.2.1 s.2.2.2).run) (r0, 2, 1, 1)) fun l_173 =>
              .br (l_173.2.1 == 3) (
                .br (l_173.2.1 == 4) (
                  .br (l_173.2.2 != 0) (
                    .bnd (app 140737488355328 [] ([IntKind.u8.wrap (IntKind.i64.wrap (240 + (IntKind.i64.wrap (l_173.1.tdiv l_173.2.2))))])) fun r_174 =>
                    .bnd (loopW (fun s => (ref01_Bytes_L22 s.1 s.2.1 s.2.2).run) (l_173.1, r_174, l_173.2.2)) fun l_175 =>
                    .pure l_175) (
                    .fail)) (
                  .br (l_173.2.2 != 0) (
                    .bnd (app 140737488355328 [] ([IntKind.u8.wrap (IntKind.i64.wrap (224 + (IntKind.i64.wrap (l_173.1.tdiv l_173.2.2))))])) fun r_176 =>
                    .bnd (loopW (fun s => (ref01_Bytes_L22 s.1 s.2.1 s.2.2).run) (l_173.1, r_176, l_173.2.2)) fun l_177 =>
                    .pure l_177) (
                    .fail))) (
                .br (l_173.2.1 == 4) (
                  .br (l_173.2.2 != 0) (
                    .bnd (app 140737488355328 [] ([IntKind.u8.wrap (IntKind.i64.wrap (240 + (IntKind.i64.wrap (l_173.1.tdiv l_173.2.2))))])) fun r_178 =>
                    .bnd (loopW (fun s => (ref01_Bytes_L22 s.1 s.2.1 s.2.2).run) (l_173.1, r_178, l_173.2.2)) fun l_179 =>
                    .pure l_179) (
                    .fail)) (
                  .br (l_173.2.2 != 0) (
                    .bnd (app 140737488355328 [] ([IntKind.u8.wrap (IntKind.i64.wrap (192 + (IntKind.i64.wrap (l_173.1.tdiv l_173.2.2))))])) fun r_180 =>
                    .bnd (loopW (fun s => (ref01_Bytes_L22 s.1 s.2.1 s.2.2).run) (l_173.1, r_180, l_173.2.2)) fun l_181 =>
                    .pure l_181) (
                    .fail)))))))))
noncomputable def ref01_Bytes_F (r0 : Int) : Option (List Int) := (ref01_Bytes_T r0).run
def ref01_Bytes_L : List (Nat × LoopAnn) := [(13, { head := [.sv 0 true (.int .i64), .snil 3, .sv 4 true (.int .i64), .sv 5 true (.int .i64), .sv 6 true (.int .i64)], xid := 0, out := [.sv 0 true (.int .i64), .snil 3, .sv 4 true (.int .i64), .sv 5 true (.int .i64)], hasRet := false, res := [] }), (22, { head := [.sv 0 true (.int .i64), .srow 3 1000003 5 true (.int .u8), .sv 5 true (.int .i64)], xid := 2, out := [.srow 3 1000003 5 true (.int .u8)], hasRet := false, res := [] })]
noncomputable def ref01_Bytes_C : List (Nat × Callee) := []
noncomputable def ref01_Bytes_fun : Fun := ⟨[.int .i64], [.row 5 (.int .u8)], fun x => ref01_Bytes_F x.1⟩
theorem ref01_Bytes_ev (x : Tys.I [.int .i64]) : evFun G0 (fun f => olook f ref01_Bytes_C) ⟨[], [], []⟩ (fun i => olook i ref01_Bytes_L) Try.f19 [.int .i64] [.row 5 (.int .u8)] x = ref01_Bytes_T x.1 := by kernel_rfl
theorem ref01_Bytes_ok : FunOk Try.prog 19 ref01_Bytes_fun := evFun_ok mixed ctx0 (no_calls) Try.func19 (by kernel_rfl) _ (fun x => congrArg Tr.run (ref01_Bytes_ev x)) (by kernel_rfl) (by kernel_rfl)
/-! ### boustrophedon/boustrophedonref01.tail -/
noncomputable def ref01_tail_T (c0 : Int) : Tr Bool :=
  .br (decide (c0 ≥ 128)) (
    .pure (decide (c0 < 192))) (
    .pure false)
noncomputable def ref01_tail_F (c0 : Int) : Option Bool := (ref01_tail_T c0).run
def ref01_tail_L : List (Nat × LoopAnn) := []
noncomputable def ref01_tail_C : List (Nat × Callee) := []
noncomputable def ref01_tail_fun : Fun := ⟨[.int .u8], [.v .bool], fun x => ref01_tail_F x.1⟩
theorem ref01_tail_ev (x : Tys.I [.int .u8]) : evFun G0 (fun f => olook f ref01_tail_C) ⟨[], [], []⟩ (fun i => olook i ref01_tail_L) Try.f44 [.int .u8] [.v .bool] x = ref01_tail_T x.1 := by kernel_rfl
theorem ref01_tail_ok : FunOk Try.prog 44 ref01_tail_fun := evFun_ok mixed ctx0 (no_calls) Try.func44 (by kernel_rfl) _ (fun x => congrArg Tr.run (ref01_tail_ev x)) (by kernel_rfl) (by kernel_rfl)
/-! ### boustrophedon/boustrophedonref01.value -/
noncomputable def ref01_value_L14 (b0 : List Int) (r4 : Int) (k5 : Int) : Tr (Lap (List Int × Int × Int) (Sum (List Int × Int) Int)) :=
  .br (decide (k5 < (b0.length : Int))) (
    .bnd (idx b0 k5) fun x_2 =>
    .bnd (ref01_tail_F x_2) fun c_3 =>
    .br (!c_3) (
      .pure (.done (.inr (-1)))) (
      .bnd (idx b0 k5) fun x_4 =>
      .pure (.next (b0, IntKind.i64.wrap ((IntKind.i64.wrap (r4 * 64)) + (IntKind.i64.wrap (IntKind.u8.wrap (x_4 - 128)))), IntKind.i64.wrap (k5 + 1))))) (
    .pure (.done (.inl (b0, r4))))
noncomputable def ref01_value_L23 (b0 : List Int) (r4 : Int) (w6 : List Int) (k7 : Int) : Tr (Lap (List Int × Int × List Int × Int) (Sum Int Int)) :=
  .br (decide (k7 < (b0.length : Int))) (
    .bnd (idx w6 k7) fun x_7 =>
    .bnd (idx b0 k7) fun x_8 =>
    .br (x_7 != x_8) (
      .pure (.done (.inr (-1)))) (
      .pure (.next (b0, r4, w6, IntKind.i64.wrap (k7 + 1))))) (
    .pure (.done (.inl r4)))
noncomputable def ref01_value_T (b0 : List Int) : Tr Int :=
  .bnd (idx b0 0) fun x_1 =>
  .br ((b0.length : Int) == 1) (
    .br (decide ((IntKind.i64.wrap x_1) < 128)) (
      .br ((b0.length : Int) == 2) (
        .br (decide ((IntKind.i64.wrap x_1) ≥ 192)) (
          .br (decide ((IntKind.i64.wrap x_1) < 224)) (
            .br ((b0.length : Int) == 3) (
              .br (decide ((IntKind.i64.wrap x_1) ≥ 224)) (
                .br (decide ((IntKind.i64.wrap x_1) < 240)) (
                  .br ((b0.length : Int) == 4) (
                    .br (decide ((IntKind.i64.wrap x_1) ≥ 240)) (
                      .br (decide ((IntKind.i64.wrap x_1) < 248)) (
                        .br (decide ((IntKind.i64.wrap ((IntKind.i64.wrap x_1) - 240)) < 0)) (
                          .pure (-1)) (
                          .alt (loopW (fun s => (ref01_value_L14 s.1 s.2.1 s.2.2).run) (b0, IntKind.i64.wrap ((IntKind.i64.wrap x_1) - 240), 1)) (fun l_5 =>
                            .bnd (ref01_Bytes_F l_5.2) fun c_6 =>
                            .br ((c_6.length : Int) != (l_5.1.length : Int)) (
                              .pure (-1)) (
                              .alt (loopW (fun s => (ref01_value_L23 s.1 s.2.1 s.2.2.1 s.2.2.2).run) (l_5.1, l_5.2, c_6, 0)) (fun l_9 =>
                                .pure l_9) (fun l_10 =>
                                .pure l_10))) (fun l_11 =>
                            .pure l_11))) (
                        .br (decide ((IntKind.i64.wrap ((IntKind.i64.wrap x_1) - 224)) < 0)) (
                          .pure (-1)) (
                          .alt (loopW (fun s => (ref01_value_L14 s.1 s.2.1 s.2.2).run) (b0, IntKind.i64.wrap ((IntKind.i64.wrap x_1) - 224), 1)) (fun l_12 =>
                            .bnd (ref01_Bytes_F l_12.2) fun c_13 =>
                            .br ((c_13.length : Int) != (l_12.1.length : Int)) (
                              .pure (-1)) (
                              .alt (loopW (fun s => (ref01_value_L23 s.1 s.2.1 s.2.2.1 s.2.2.2).run) (l_12.1, l_12.2, c_13, 0)) (fun l_14 =>
                                .pure l_14) (fun l_15 =>
                                .pure l_15))) (fun l_16 =>
                            .pure l_16)))) (
                      .br (decide ((IntKind.i64.wrap ((IntKind.i64.wrap x_1) - 224)) < 0)) (
                        .pure (-1)) (
                        .alt (loopW (fun s => (ref01_value_L14 s.1 s.2.1 s.2.2).run) (b0, IntKind.i64.wrap ((IntKind.i64.wrap x_1) - 224), 1)) (fun l_17 =>
                          .bnd (ref01_Bytes_F l_17.2) fun c_18 =>
                          .br ((c_18.length : Int) != (l_17.1.length : Int)) (
                            .pure (-1)) (
                            .alt (loopW (fun s => (ref01_value_L23 s.1 s.2.1 s.2.2.1 s.2.2.2).run) (l_17.1, l_17.2, c_18, 0)) (fun l_19 =>
                              .pure l_19) (fun l_20 =>
                              .pure l_20))) (fun l_21 =>
                          .pure l_21)))) (
                    .br (decide ((IntKind.i64.wrap ((IntKind.i64.wrap x_1) - 224)) < 0)) (
                      .pure (-1)) (
                      .alt (loopW (fun s => (ref01_value_L14 s.1 s.2.1 s.2.2).run) (b0, IntKind.i64.wrap ((IntKind.i64.wrap x_1) - 224), 1)) (fun l_22 =>
                        .bnd (ref01_Bytes_F l_22.2) fun c_23 =>
                        .br ((c_23.length : Int) != (l_22.1.length : Int)) (
                          .pure (-1)) (
                          .alt (loopW (fun s => (ref01_value_L23 s.1 s.2.1 s.2.2.1 s.2.2.2).run) (l_22.1, l_22.2, c_23, 0)) (fun l_24 =>
                            .pure l_24) (fun l_25 =>
                            .pure l_25))) (fun l_26 =>
                        .pure l_26)))) (
                  .br ((b0.length : Int) == 4) (
                    .br (decide ((IntKind.i64.wrap x_1) ≥ 240)) (
                      .br (decide ((IntKind.i64.wrap x_1) < 248)) (
                        .br (decide ((IntKind.i64.wrap ((IntKind.i64.wrap x_1) - 240)) < 0)) (
                          .pure (-1)) (
                          .alt (loopW (fun s => (ref01_value_L14 s.1 s.2.1 s.2.2).run) (b0, IntKind.i64.wrap ((IntKind.i64.wrap x_1) - 240), 1)) (fun l_27 =>
                            .bnd (ref01_Bytes_F l_27.2) fun c_28 =>
                            .br ((c_28.length : Int) != (l_27.1.length : Int)) (
                              .pure (-1)) (
                              .alt (loopW (fun s => (ref01_value_L23 s.1 s.2.1 s.2.2.1 s.2.2.2).run) (l_27.1, l_27.2, c_28, 0)) (fun l_29 =>
                                .pure l_29) (fun l_30 =>
                                .pure l_30))) (fun l_31 =>
                            .pure l_31))) (
                        .br (decide ((IntKind.i64.wrap ((IntKind.i64.wrap x_1) - 192)) < 0)) (
                          .pure (-1)) (
                          .alt (loopW (fun s => (ref01_value_L14 s.1 s.2.1 s.2.2).run) (b0, IntKind.i64.wrap ((IntKind.i64.wrap x_1) - 192), 1)) (fun l_32 =>
                            .bnd (ref01_Bytes_F l_32.2) fun c_33 =>
                            .br ((c_33.length : Int) != (l_32.1.length : Int)) (
                              .pure (-1)) (
                              .alt (loopW (fun s => (ref01_value_L23 s.1 s.2.1 s.2.2.1 s.2.2.2).run) (l_32.1, l_32.2, c_33, 0)) (fun l_34 =>
                                .pure l_34) (fun l_35 =>
                                .pure l_35))) (fun l_36 =>
                            .pure l_36)))) (
                      .br (decide ((IntKind.i64.wrap ((IntKind.i64.wrap x_1) - 192)) < 0)) (
                        .pure (-1)) (
                        .alt (loopW (fun s => (ref01_value_L14 s.1 s.2.1 s.2.2).run) (b0, IntKind.i64.wrap ((IntKind.i64.wrap x_1) - 192), 1)) (fun l_37 =>
                          .bnd (ref01_Bytes_F l_37.2) fun c_38 =>
                          .br ((c_38.length : Int) != (l_37.1.length : Int)) (
                            .pure (-1)) (
                            .alt (loopW (fun s => (ref01_value_L23 s.1 s.2.1 s.2.2.1 s.2.2.2).run) (l_37.1, l_37.2, c_38, 0)) (fun l_39 =>
                              .pure l_39) (fun l_40 =>
                              .pure l_40))) (fun l_41 =>
                          .pure l_41)))) (
                    .br (decide ((IntKind.i64.wrap ((IntKind.i64.wrap x_1) - 192)) < 0)) (
                      .pure (-1)) (
                      .alt (loopW (fun s => (ref01_value_L14 s.1 s.2.1 s.2.2).run) (b0, IntKind.i64.wrap ((IntKind.i64.wrap x_1) - 192), 1)) (fun l_42 =>
                        .bnd (ref01_Bytes_F l_42.2) fun c_43 =>
                        .br ((c_43.length : Int) != (l_42.1.length : Int)) (
                          .pure (-1)) (
                          .alt (loopW (fun s => (ref01_value_L23 s.1 s.2.1 s.2.2.1 s.2.2.2).run) (l_42.1, l_42.2, c_43, 0)) (fun l_44 =>
                            .pure l_44) (fun l_45 =>
                            .pure l_45))) (fun l_46 =>
                        .pure l_46))))) (
                .br ((b0.length : Int) == 4) (
                  .br (decide ((IntKind.i64.wrap x_1) ≥ 240)) (
                    .br (decide ((IntKind.i64.wrap x_1) < 248)) (
                      .br (decide ((IntKind.i64.wrap ((IntKind.i64.wrap x_1) - 240)) < 0)) (
                        .pure (-1)) (
                        .alt (loopW (fun s => (ref01_value_L14 s.1 s.2.1 s.2.2).run) (b0, IntKind.i64.wrap ((IntKind.i64.wrap x_1) - 240), 1)) (fun l_47 =>
                          .bnd (ref01_Bytes_F l_47.2) fun c_48 =>
                          .br ((c_48.length : Int) != (l_47.1.length : Int)) (
                            .pure (-1)) (
                            .alt (loopW (fun s => (ref01_value_L23 s.1 s.2.1 s.2.2.1 s.2.2.2).run) (l_47.1, l_47.2, c_48, 0)) (fun l_49 =>
                              .pure l_49) (fun l_50 =>
                              .pure l_50))) (fun l_51 =>
                          .pure l_51))) (
                      .br (decide ((IntKind.i64.wrap ((IntKind.i64.wrap x_1) - 192)) < 0)) (
                        .pure (-1)) (
                        .alt (loopW (fun s => (ref01_value_L14 s.1 s.2.1 s.2.2).run) (b0, IntKind.i64.wrap ((IntKind.i64.wrap x_1) - 192), 1)) (fun l_52 =>
                          .bnd (ref01_Bytes_F l_52.2) fun c_53 =>
                          .br ((c_53.length : Int) != (l_52.1.length : Int)) (
                            .pure (-1)) (
                            .alt (loopW (fun s => (ref01_value_L23 s.1 s.2.1 s.2.2.1 s.2.2.2).run) (l_52.1, l_52.2, c_53, 0)) (fun l_54 =>
                              .pure l_54) (fun l_55 =>
                              .pure l_55))) (fun l_56 =>
                          .pure l_56)))) (
                    .br (decide ((IntKind.i64.wrap ((IntKind.i64.wrap x_1) - 192)) < 0)) (
                      .pure (-1)) (
                      .alt (loopW (fun s => (ref01_value_L14 s.1 s.2.1 s.2.2).run) (b0, IntKind.i64.wrap ((IntKind.i64.wrap x_1) - 192), 1)) (fun l_57 =>
                        .bnd (ref01_Bytes_F l_57.2) fun c_58 =>
                        .br ((c_58.length : Int) != (l_57.1.length : Int)) (
                          .pure (-1)) (
                          .alt (loopW (fun s => (ref01_value_L23 s.1 s.2.1 s.2.2.1 s.2.2.2).run) (l_57.1, l_57.2, c_58, 0)) (fun l_59 =>
                            .pure l_59) (fun l_60 =>
                            .pure l_60))) (fun l_61 =>
                        .pure l_61)))) (
                  .br (decide ((IntKind.i64.wrap ((IntKind.i64.wrap x_1) - 192)) < 0)) (
                    .pure (-1)) (
                    .alt (loopW (fun s => (ref01_value_L14 s.1 s.2.1 s.2.2).run) (b0, IntKind.i64.wrap ((IntKind.i64.wrap x_1) - 192), 1)) (fun l_62 =>
                      .bnd (ref01_Bytes_F l_62.2) fun c_63 =>
                      .br ((c_63.length : Int) != (l_62.1.length : Int)) (
                        .pure (-1)) (
                        .alt (loopW (fun s => (ref01_value_L23 s.1 s.2.1 s.2.2.1 s.2.2.2).run) (l_62.1, l_62.2, c_63, 0)) (fun l_64 =>
                          .pure l_64) (fun l_65 =>
                          .pure l_65))) (fun l_66 =>
                      .pure l_66))))) (
              .br ((b0.length : Int) == 4) (
                .br (decide ((IntKind.i64.wrap x_1) ≥ 240)) (
                  .br (decide ((IntKind.i64.wrap x_1) < 248)) (
                    .br (decide ((IntKind.i64.wrap ((IntKind.i64.wrap x_1) - 240)) < 0)) (
                      .pure (-1)) (
                      .alt (loopW (fun s => (ref01_value_L14 s.1 s.2.1 s.2.2).run) (b0, IntKind.i64.wrap ((IntKind.i64.wrap x_1) - 240), 1)) (fun l_67 =>
                        .bnd (ref01_Bytes_F l_67.2) fun c_68 =>
                        .br ((c_68.length : Int) != (l_67.1.length : Int)) (
                          .pure (-1)) (
                          .alt (loopW (fun s => (ref01_value_L23 s.1 s.2.1 s.2.2.1 s.2.2.2).run) (l_67.1, l_67.2, c_68, 0)) (fun l_69 =>
                            .pure l_69) (fun l_70 =>
                            .pure l_70))) (fun l_71 =>
                        .pure l_71))) (
                    .br (decide ((IntKind.i64.wrap ((IntKind.i64.wrap x_1) - 192)) < 0)) (
                      .pure (-1)) (
                      .alt (loopW (fun s => (ref01_value_L14 s.1 s.2.1 s.2.2).run) (b0, IntKind.i64.wrap ((IntKind.i64.wrap x_1) - 192), 1)) (fun l_72 =>
                        .bnd (ref01_Bytes_F l_72.2) fun c_73 =>
                        .br ((c_73.length : Int) != (l_72.1.length : Int)) (
                          .pure (-1)) (
                          .alt (loopW (fun s => (ref01_value_L23 s.1 s.2.1 s.2.2.1 s.2.2.2).run) (l_72.1, l_72.2, c_73, 0)) (fun l_74 =>
                            .pure l_74) (fun l_75 =>
                            .pure l_75))) (fun l_76 =>
                        .pure l_76)))) (
                  .br (decide ((IntKind.i64.wrap ((IntKind.i64.wrap x_1) - 192)) < 0)) (
                    .pure (-1)) (
                    .alt (loopW (fun s => (ref01_value_L14 s.1 s.2.1 s.2.2).run) (b0, IntKind.i64.wrap ((IntKind.i64.wrap x_1) - 192), 1)) (fun l_77 =>
                      .bnd (ref01_Bytes_F l_77.2) fun c_78 =>
                      .br ((c_78.length : Int) != (l_77.1.length : Int)) (
                        .pure (-1)) (
                        .alt (loopW (fun s => (ref01_value_L23 s.1 s.2.1 s.2.2.1 s.2.2.2).run) (l_77.1, l_77.2, c_78, 0)) (fun l_79 =>
                          .pure l_79) (fun l_80 =>
                          .pure l_80))) (fun l_81 =>
                      .pure l_81)))) (
                .br (decide ((IntKind.i64.wrap ((IntKind.i64.wrap x_1) - 192)) < 0)) (
                  .pure (-1)) (
                  .alt (loopW (fun s => (ref01_value_L14 s.1 s.2.1 s.2.2).run) (b0, IntKind.i64.wrap ((IntKind.i64.wrap x_1) - 192), 1)) (fun l_82 =>
                    .bnd (ref01_Bytes_F l_82.2) fun c_83 =>
                    .br ((c_83.length : Int) != (l_82.1.length : Int)) (
                      .pure (-1)) (
                      .alt (loopW (fun s => (ref01_value_L23 s.1 s.2.1 s.2.2.1 s.2.2.2).run) (l_82.1, l_82.2, c_83, 0)) (fun l_84 =>
                        .pure l_84) (fun l_85 =>
                        .pure l_85))) (fun l_86 =>
                    .pure l_86))))) (
            .br ((b0.length : Int) == 3) (
              .br (decide ((IntKind.i64.wrap x_1) ≥ 224)) (
                .br (decide ((IntKind.i64.wrap x_1) < 240)) (
                  .br ((b0.length : Int) == 4) (
                    .br (decide ((IntKind.i64.wrap x_1) ≥ 240)) (
                      .br (decide ((IntKind.i64.wrap x_1) < 248)) (
                        .br (decide ((IntKind.i64.wrap ((IntKind.i64.wrap x_1) - 240)) < 0)) (
                          .pure (-1)) (
                          .alt (loopW (fun s => (ref01_value_L14 s.1 s.2.1 s.2.2).run) (b0, IntKind.i64.wrap ((IntKind.i64.wrap x_1) - 240), 1)) (fun l_87 =>
                            .bnd (ref01_Bytes_F l_87.2) fun c_88 =>
                            .br ((c_88.length : Int) != (l_87.1.length : Int)) (
                              .pure (-1)) (
                              .alt (loopW (fun s => (ref01_value_L23 s.1 s.2.1 s.2.2.1 s.2.2.2).run) (l_87.1, l_87.2, c_88, 0)) (fun l_89 =>
                                .pure l_89) (fun l_90 =>
                                .pure l_90))) (fun l_91 =>
                            .pure l_91))) (
                        .br (decide ((IntKind.i64.wrap ((IntKind.i64.wrap x_1) - 224)) < 0)) (
                          .pure (-1)) (
                          .alt (loopW (fun s => (ref01_value_L14 s.1 s.2.1 s.2.2).run) (b0, IntKind.i64.wrap ((IntKind.i64.wrap x_1) - 224), 1)) (fun l_92 =>
                            .bnd (ref01_Bytes_F l_92.2) fun c_93 =>
                            .br ((c_93.length : Int) != (l_92.1.length : Int)) (
                              .pure (-1)) (
                              .alt (loopW (fun s => (ref01_value_L23 s.1 s.2.1 s.2.2.1 s.2.2.2).run) (l_92.1, l_92.2, c_93, 0)) (fun l_94 =>
                                .pure l_94) (fun l_95 =>
                                .pure l_95))) (fun l_96 =>
                            .pure l_96)))) (
                      .br (decide ((IntKind.i64.wrap ((IntKind.i64.wrap x_1) - 224)) < 0)) (
                        .pure (-1)) (
                        .alt (loopW (fun s => (ref01_value_L14 s.1 s.2.1 s.2.2).run) (b0, IntKind.i64.wrap ((IntKind.i64.wrap x_1) - 224), 1)) (fun l_97 =>
                          .bnd (ref01_Bytes_F l_97.2) fun c_98 =>
                          .br ((c_98.length : Int) != (l_97.1.length : Int)) (
                            .pure (-1)) (
                            .alt (loopW (fun s => (ref01_value_L23 s.1 s.2.1 s.2.2.1 s.2.2.2).run) (l_97.1, l_97.2, c_98, 0)) (fun l_99 =>
                              .pure l_99) (fun l_100 =>
                              .pure l_100))) (fun l_101 =>
                          .pure l_101)))) (
                    .br (decide ((IntKind.i64.wrap ((IntKind.i64.wrap x_1) - 224)) < 0)) (
                      .pure (-1)) (
                      .alt (loopW (fun s => (ref01_value_L14 s.1 s.2.1 s.2.2).run) (b0, IntKind.i64.wrap ((IntKind.i64.wrap x_1) - 224), 1)) (fun l_102 =>
                        .bnd (ref01_Bytes_F l_102.2) fun c_103 =>
                        .br ((c_103.length : Int) != (l_102.1.length : Int)) (
                          .pure (-1)) (
                          .alt (loopW (fun s => (ref01_value_L23 s.1 s.2.1 s.2.2.1 s.2.2.2).run) (l_102.1, l_102.2, c_103, 0)) (fun l_104 =>
                            .pure l_104) (fun l_105 =>
                            .pure l_105))) (fun l_106 =>
                        .pure l_106)))) (
                  .br ((b0.length : Int) == 4) (
                    .br (decide ((IntKind.i64.wrap x_1) ≥ 240)) (
                      .br (decide ((IntKind.i64.wrap x_1) < 248)) (
                        .br (decide ((IntKind.i64.wrap ((IntKind.i64.wrap x_1) - 240)) < 0)) (
                          .pure (-1)) (
                          .alt (loopW (fun s => (ref01_value_L14 s.1 s.2.1 s.2.2).run) (b0, IntKind.i64.wrap ((IntKind.i64.wrap x_1) - 240), 1)) (fun l_107 =>
                            .bnd (ref01_Bytes_F l_107.2) fun c_108 =>
                            .br ((c_108.length : Int) != (l_107.1.length : Int)) (
                              .pure (-1)) (
                              .alt (loopW (fun s => (ref01_value_L23 s.1 s.2.1 s.2.2.1 s.2.2.2).run) (l_107.1, l_107.2, c_108, 0)) (fun l_109 =>
                                .pure l_109) (fun l_110 =>
                                .pure l_110))) (fun l_111 =>
                            .pure l_111))) (
                        .br (decide ((IntKind.i64.wrap x_1) < 0)) (
                          .pure (-1)) (
                          .alt (loopW (fun s => (ref01_value_L14 s.1 s.2.1 s.2.2).run) (b0, IntKind.i64.wrap x_1, 1)) (fun l_112 =>
                            .bnd (ref01_Bytes_F l_112.2) fun c_113 =>
                            .br ((c_113.length : Int) != (l_112.1.length : Int)) (
                              .pure (-1)) (
                              .alt (loopW (fun s => (ref01_value_L23 s.1 s.2.1 s.2.2.1 s.2.2.2).run) (l_112.1, l_112.2, c_113, 0)) (fun l_114 =>
                                .pure l_114) (fun l_115 =>
                                .pure l_115))) (fun l_116 =>
                            .pure l_116)))) (
                      .br (decide ((IntKind.i64.wrap x_1) < 0)) (
                        .pure (-1)) (
                        .alt (loopW (fun s => (ref01_value_L14 s.1 s.2.1 s.2.2).run) (b0, IntKind.i64.wrap x_1, 1)) (fun l_117 =>
                          .bnd (ref01_Bytes_F l_117.2) fun c_118 =>
                          .br ((c_118.length : Int) != (l_117.1.length : Int)) (
                            .pure (-1)) (
                            .alt (loopW (fun s => (ref01_value_L23 s.1 s.2.1 s.2.2.1 s.2.2.2).run) (l_117.1, l_117.2, c_118, 0)) (fun l_119 =>
                              .pure l_119) (fun l_120 =>
                              .pure l_120))) (fun l_121 =>
                          .pure l_121)))) (
                    .br (decide ((IntKind.i64.wrap x_1) < 0)) (
                      .pure (-1)) (
                      .alt (loopW (fun s => (ref01_value_L14 s.1 s.2.1 s.2.2).run) (b0, IntKind.i64.wrap x_1, 1)) (fun l_122 =>
                        .bnd (ref01_Bytes_F l_122.2) fun c_123 =>
                        .br ((c_123.length : Int) != (l_122.1.length : Int)) (
                          .pure (-1)) (
                          .alt (loopW (fun s => (ref01_value_L23 s.1 s.2.1 s.2.2.1 s.2.2.2).run) (l_122.1, l_122.2, c_123, 0)) (fun l_124 =>
                            .pure l_124) (fun l_125 =>
                            .pure l_125))) (fun l_126 =>
                        .pure l_126))))) (
                .br ((b0.length : Int) == 4) (
                  .br (decide ((IntKind.i64.wrap x_1) ≥ 240)) (
                    .br (decide ((IntKind.i64.wrap x_1) < 248)) (
                      .br (decide ((IntKind.i64.wrap ((IntKind.i64.wrap x_1) - 240)) < 0)) (
                        .pure (-1)) (
                        .alt (loopW (fun s => (ref01_value_L14 s.1 s.2.1 s.2.2).run) (b0, IntKind.i64.wrap ((IntKind.i64.wrap x_1) - 240), 1)) (fun l_127 =>
                          .bnd (ref01_Bytes_F l_127.2) fun c_128 =>
                          .br ((c_128.length : Int) != (l_127.1.length : Int)) (
                            .pure (-1)) (
                            .alt (loopW (fun s => (ref01_value_L23 s.1 s.2.1 s.2.2.1 s.2.2.2).run) (l_127.1, l_127.2, c_128, 0)) (fun l_129 =>
                              .pure l_129) (fun l_130 =>
                              .pure l_130))) (fun l_131 =>
                          .pure l_131))) (
                      .br (decide ((IntKind.i64.wrap x_1) < 0)) (
                        .pure (-1)) (
                        .alt (loopW (fun s => (ref01_value_L14 s.1 s.2.1 s.2.2).run) (b0, IntKind.i64.wrap x_1, 1)) (fun l_132 =>
                          .bnd (ref01_Bytes_F l_132.2) fun c_133 =>
                          .br ((c_133.length : Int) != (l_132.1.length : Int)) (
                            .pure (-1)) (
                            .alt (loopW (fun s => (ref01_value_L23 s.1 s.2.1 s.2.2.1 s.2.2.2).run) (l_132.1, l_132.2, c_133, 0)) (fun l_134 =>
                              .pure l_134) (fun l_135 =>
                              .pure l_135))) (fun l_136 =>
                          .pure l_136)))) (
                    .br (decide ((IntKind.i64.wrap x_1) < 0)) (
                      .pure (-1)) (
                      .alt (loopW (fun s => (ref01_value_L14 s.1 s.2.1 s.2.2).run) (b0, IntKind.i64.wrap x_1, 1)) (fun l_137 =>
                        .bnd (ref01_Bytes_F l_137.2) fun c_138 =>
                        .br ((c_138.length : Int) != (l_137.1.length : Int)) (
                          .pure (-1)) (
                          .alt (loopW (fun s => (ref01_value_L23 s.1 s.2.1 s.2.2.1 s.2.2.2).run) (l_137.1, l_137.2, c_138, 0)) (fun l_139 =>
                            .pure l_139) (fun l_140 =>
                            .pure l_140))) (fun l_141 =>
                        .pure l_141)))) (
                  .br (decide ((IntKind.i64.wrap x_1) < 0)) (
                    .pure (-1)) (
                    .alt (loopW (fun s => (ref01_value_L14 s.1 s.2.1 s.2.2).run) (b0, IntKind.i64.wrap x_1, 1)) (fun l_142 =>
                      .bnd (ref01_Bytes_F l_142.2) fun c_143 =>
                      .br ((c_143.length : Int) != (l_142.1.length : Int)) (
                        .pure (-1)) (
                        .alt (loopW (fun s => (ref01_value_L23 s.1 s.2.1 s.2.2.1 s.2.2.2).run) (l_142.1, l_142.2, c_143, 0)) (fun l_144 =>
                          .pure l_144) (fun l_145 =>
                          .pure l_145))) (fun l_146 =>
                      .pure l_146))))) (
              .br ((b0.length : Int) == 4) (
                .br (decide ((IntKind.i64.wrap x_1) ≥ 240)) (
                  .br (decide ((IntKind.i64.wrap x_1) < 248)) (
                    .br (decide ((IntKind.i64.wrap ((IntKind.i64.wrap x_1) - 240)) < 0)) (
                      .pure (-1)) (
                      .alt (loopW (fun s => (ref01_value_L14 s.1 s.2.1 s.2.2).run) (b0, IntKind.i64.wrap ((IntKind.i64.wrap x_1) - 240), 1)) (fun l_147 =>
                        .bnd (ref01_Bytes_F l_147.2) fun c_148 =>
                        .br ((c_148.length : Int) != (l_147.1.length : Int)) (
                          .pure (-1)) (
                          .alt (loopW (fun s => (ref01_value_L23 s.1 s.2.1 s.2.2.1 s.2.2.2).run) (l_147.1, l_147.2, c_148, 0)) (fun l_149 =>
                            .pure l_149) (fun l_150 =>
                            .pure l_150))) (fun l_151 =>
                        .pure l_151))) (
                    .br (decide ((IntKind.i64.wrap x_1) < 0)) (
                      .pure (-1)) (
                      .alt (loopW (fun s => (ref01_value_L14 s.1 s.2.1 s.2.2).run) (b0, IntKind.i64.wrap x_1, 1)) (fun l_152 =>
                        .bnd (ref01_Bytes_F l_152.2) fun c_153 =>
                        .br ((c_153.length : Int) != (l_152.1.length : Int)) (
                          .pure (-1)) (
                          .alt (loopW (fun s => (ref01_value_L23 s.1 s.2.1 s.2.2.1 s.2.2.2).run) (l_152.1, l_152.2, c_153, 0)) (fun l_154 =>
                            .pure l_154) (fun l_155 =>
                            .pure l_155))) (fun l_156 =>
                        .pure l_156)))) (
                  .br (decide ((IntKind.i64.wrap x_1) < 0)) (
                    .pure (-1)) (
                    .alt (loopW (fun s => (ref01_value_L14 s.1 s.2.1 s.2.2).run) (b0, IntKind.i64.wrap x_1, 1)) (fun l_157 =>
                      .bnd (ref01_Bytes_F l_157.2) fun c_158 =>
                      .br ((c_158.length : Int) != (l_157.1.length : Int)) (
                        .pure (-1)) (
                        .alt (loopW (fun s => (ref01_value_L23 s.1 s.2.1 s.2.2.1 s.2.2.2).run) (l_157.1, l_157.2, c_158, 0)) (fun l_159 =>
                          .pure l_159) (fun l_160 =>
                          .pure l_160))) (fun l_161 =>
                      .pure l_161)))) (
                .br (decide ((IntKind.i64.wrap x_1) < 0)) (
                  .pure (-1)) (
                  .alt (loopW (fun s => (ref01_value_L14 s.1 s.2.1 s.2.2).run) (b0, IntKind.i64.wrap x_1, 1)) (fun l_162 =>
                    .bnd (ref01_Bytes_F l_162.2) fun c_163 =>
                    .br ((c_163.length : Int) != (l_162.1.length : Int)) (
                      .pure (-1)) (
                      .alt (loopW (fun s => (ref01_value_L23 s.1 s.2.1 s.2.2.1 s.2.2.2).run) (l_162.1, l_162.2, c_163, 0)) (fun l_164 =>
                        .pure l_164) (fun l_165 =>
                        .pure l_165))) (fun l_166 =>
                    .pure l_166)))))) (
          .br ((b0.length : Int) == 3) (
            .br (decide ((IntKind.i64.wrap x_1) ≥ 224)) (
              .br (decide ((IntKind.i64.wrap x_1) < 240)) (
                .br ((b0.length : Int) == 4) (
                  .br (decide ((IntKind.i64.wrap x_1) ≥ 240)) (
                    .br (decide ((IntKind.i64.wrap x_1) < 248)) (
                      .br (decide ((IntKind.i64.wrap ((IntKind.i64.wrap x_1) - 240)) < 0)) (
                        .pure (-1)) (
                        .alt (loopW (fun s => (ref01_value_L14 s.1 s.2.1 s.2.2).run) (b0, IntKind.i64.wrap ((IntKind.i64.wrap x_1) - 240), 1)) (fun l_167 =>
                          .bnd (ref01_Bytes_F l_167.2) fun c_168 =>
                          .br ((c_168.length : Int) != (l_167.1.length : Int)) (
                            .pure (-1)) (
                            .alt (loopW (fun s => (ref01_value_L23 s.1 s.2.1 s.2.2.1 s.2.2.2).run) (l_167.1, l_167.2, c_168, 0)) (fun l_169 =>
                              .pure l_169) (fun l_170 =>
                              .pure l_170))) (fun l_171 =>
                          .pure l_171))) (
                      .br (decide ((IntKind.i64.wrap ((IntKind.i64.wrap x_1) - 224)) < 0)) (
                        .pure (-1)) (
                        .alt (loopW (fun s => (ref01_value_L14 s.1 s.2.1 s.2.2).run) (b0, IntKind.i64.wrap ((IntKind.i64.wrap x_1) - 224), 1)) (fun l_172 =>
                          .bnd (ref01_Bytes_F l_172.2) fun c_173 =>
                          .br ((c_173.length : Int) != (l_172.1.length : Int)) (
                            .pure (-1)) (
                            .alt (loopW (fun s => (ref01_value_L23 s.1 s.2.1 s.2.2.1 s.2.2.2).run) (l_172.1, l_172.2, c_173, 0)) (fun l_174 =>
                              .pure l_174) (fun l_175 =>
                              .pure l_175))) (fun l_176 =>
                          .pure l_176)))) (
                    .br (decide ((IntKind.i64.wrap ((IntKind.i64.wrap x_1) - 224)) < 0)) (
                      .pure (-1)) (
                      .alt (loopW (fun s => (ref01_value_L14 s.1 s.2.1 s.2.2).run) (b0, IntKind.i64.wrap ((IntKind.i64.wrap x_1) - 224), 1)) (fun l_177 =>
                        .bnd (ref01_Bytes_F l_177.2) fun c_178 =>
                        .br ((c_178.length : Int) != (l_177.1.length : Int)) (
                          .pure (-1)) (
                          .alt (loopW (fun s => (ref01_value_L23 s.1 s.2.1 s.2.2.1 s.2.2.2).run) (l_177.1, l_177.2, c_178, 0)) (fun l_179 =>
                            .pure l_179) (fun l_180 =>
                            .pure l_180))) (fun l_181 =>
                        .pure l_181)))) (
                  .br (decide ((IntKind.i64.wrap ((IntKind.i64.wrap x_1) - 224)) < 0)) (
                    .pure (-1)) (
                    .alt (loopW (fun s => (ref01_value_L14 s.1 s.2.1 s.2.2).run) (b0, IntKind.i64.wrap ((IntKind.i64.wrap x_1) - 224), 1)) (fun l_182 =>
                      .bnd (ref01_Bytes_F l_182.2) fun c_183 =>
                      .br ((c_183.length : Int) != (l_182.1.length : Int)) (
                        .pure (-1)) (
                        .alt (loopW (fun s => (ref01_value_L23 s.1 s.2.1 s.2.2.1 s.2.2.2).run) (l_182.1, l_182.2, c_183, 0)) (fun l_184 =>
                          .pure l_184) (fun l_185 =>
                          .pure l_185))) (fun l_186 =>
                      .pure l_186)))) (
                .br ((b0.length : Int) == 4) (
                  .br (decide ((IntKind.i64.wrap x_1) ≥ 240)) (
                    .br (decide ((IntKind.i64.wrap x_1) < 248)) (
                      .br (decide ((IntKind.i64.wrap ((IntKind.i64.wrap x_1) - 240)) < 0)) (
                        .pure (-1)) (
                        .alt (loopW (fun s => (ref01_value_L14 s.1 s.2.1 s.2.2).run) (b0, IntKind.i64.wrap ((IntKind.i64.wrap x_1) - 240), 1)) (fun l_187 =>
                          .bnd (ref01_Bytes_F l_187.2) fun c_188 =>
                          .br ((c_188.length : Int) != (l_187.1.length : Int)) (
                            .pure (-1)) (
                            .alt (loopW (fun s => (ref01_value_L23 s.1 s.2.1 s.2.2.1 s.2.2.2).run) (l_187.1, l_187.2, c_188, 0)) (fun l_189 =>
                              .pure l_189) (fun l_190 =>
                              .pure l_190))) (fun l_191 =>
                          .pure l_191))) (
                      .br (decide ((IntKind.i64.wrap x_1) < 0)) (
                        .pure (-1)) (
                        .alt (loopW (fun s => (ref01_value_L14 s.1 s.2.1 s.2.2).run) (b0, IntKind.i64.wrap x_1, 1)) (fun l_192 =>
                          .bnd (ref01_Bytes_F l_192.2) fun c_193 =>
                          .br ((c_193.length : Int) != (l_192.1.length : Int)) (
                            .pure (-1)) (
                            .alt (loopW (fun s => (ref01_value_L23 s.1 s.2.1 s.2.2.1 s.2.2.2).run) (l_192.1, l_192.2, c_193, 0)) (fun l_194 =>
                              .pure l_194) (fun l_195 =>
                              .pure l_195))) (fun l_196 =>
                          .pure l_196)))) (
                    .br (decide ((IntKind.i64.wrap x_1) < 0)) (
                      .pure (-1)) (
                      .alt (loopW (fun s => (ref01_value_L14 s.1 s.2.1 s.2.2).run) (b0, IntKind.i64.wrap x_1, 1)) (fun l_197 =>
                        .bnd (ref01_Bytes_F l_197.2) fun c_198 =>
                        .br ((c_198.length : Int) != (l_197.1.length : Int)) (
                          .pure (-1)) (
                          .alt (loopW (fun s => (ref01_value_L23 s.1 s.2.1 s.2.2.1 s.2.2.2).run) (l_197.1, l_197.2, c_198, 0)) (fun l_199 =>
                            .pure l_199) (fun l_200 =>
                            .pure l_200))) (fun l_201 =>
                        .pure l_201)))) (
                  .br (decide ((IntKind.i64.wrap x_1) < 0)) (
                    .pure (-1)) (
                    .alt (loopW (fun s => (ref01_value_L14 s.1 s.2.1 s.2.2).run) (b0, IntKind.i64.wrap x_1, 1)) (fun l_202 =>
                      .bnd (ref01_Bytes_F l_202.2) fun c_203 =>
                      .br ((c_203.length : Int) != (l_202.1.length : Int)) (
                        .pure (-1)) (
                        .alt (loopW (fun s => (ref01_value_L23 s.1 s.2.1 s.2.2.1 s.2.2.2).run) (l_202.1, l_202.2, c_203, 0)) (fun l_204 =>
                          .pure l_204) (fun l_205 =>
                          .pure l_205))) (fun l_206 =>
                      .pure l_206))))) (
              .br ((b0.length : Int) == 4) (
                .br (decide ((IntKind.i64.wrap x_1) ≥ 240)) (
                  .br (decide ((IntKind.i64.wrap x_1) < 248)) (
                    .br (decide ((IntKind.i64.wrap ((IntKind.i64.wrap x_1) - 240)) < 0)) (
                      .pure (-1)) (
                      .alt (loopW (fun s => (ref01_value_L14 s.1 s.2.1 s.2.2).run) (b0, IntKind.i64.wrap ((IntKind.i64.wrap x_1) - 240), 1)) (fun l_207 =>
                        .bnd (ref01_Bytes_F l_207.2) fun c_208 =>
                        .br ((c_208.length : Int) != (l_207.1.length : Int)) (
                          .pure (-1)) (
                          .alt (loopW (fun s => (ref01_value_L23 s.1 s.2.1 s.2.2.1 s.2.2.2).run) (l_207.1, l_207.2, c_208, 0)) (fun l_209 =>
                            .pure l_209) (fun l_210 =>
                            .pure l_210))) (fun l_211 =>
                        .pure l_211))) (
                    .br (decide ((IntKind.i64.wrap x_1) < 0)) (
                      .pure (-1)) (
                      .alt (loopW (fun s => (ref01_value_L14 s.1 s.2.1 s.2.2).run) (b0, IntKind.i64.wrap x_1, 1)) (fun l_212 =>
                        .bnd (ref01_Bytes_F l_212.2) fun c_213 =>
                        .br ((c_213.length : Int) != (l_212.1.length : Int)) (
                          .pure (-1)) (
                          .alt (loopW (fun s => (ref01_value_L23 s.1 s.2.1 s.2.2.1 s.2.2.2).run) (l_212.1, l_212.2, c_213, 0)) (fun l_214 =>
                            .pure l_214) (fun l_215 =>
                            .pure l_215))) (fun l_216 =>
                        .pure l_216)))) (
                  .br (decide ((IntKind.i64.wrap x_1) < 0)) (
                    .pure (-1)) (
                    .alt (loopW (fun s => (ref01_value_L14 s.1 s.2.1 s.2.2).run) (b0, IntKind.i64.wrap x_1, 1)) (fun l_217 =>
                      .bnd (ref01_Bytes_F l_217.2) fun c_218 =>
                      .br ((c_218.length : Int) != (l_217.1.length : Int)) (
                        .pure (-1)) (
                        .alt (loopW (fun s => (ref01_value_L23 s.1 s.2.1 s.2.2.1 s.2.2.2).run) (l_217.1, l_217.2, c_218, 0)) (fun l_219 =>
                          .pure l_219) (fun l_220 =>
                          .pure l_220))) (fun l_221 =>
                      .pure l_221)))) (
                .br (decide ((IntKind.i64.wrap x_1) < 0)) (
                  .pure (-1)) (
                  .alt (loopW (fun s => (ref01_value_L14 s.1 s.2.1 s.2.2).run) (b0, IntKind.i64.wrap x_1, 1)) (fun l_222 =>
                    .bnd (ref01_Bytes_F l_222.2) fun c_223 =>
                    .br ((c_223.length : Int) != (l_222.1.length : Int)) (
                      .pure (-1)) (
                      .alt (loopW (fun s => (ref01_value_L23 s.1 s.2.1 s.2.2.1 s.2.2.2).run) (l_222.1, l_222.2, c_223, 0)) (fun l_224 =>
                        .pure l_224) (fun l_225 =>
                        .pure l_225))) (fun l_226 =>
                    .pure l_226))))) (
            .br ((b0.length : Int) == 4) (
              .br (decide ((IntKind.i64.wrap x_1) ≥ 240)) (
                .br (decide ((IntKind.i64.wrap x_1) < 248)) (
                  .br (decide ((IntKind.i64.wrap ((IntKind.i64.wrap x_1) - 240)) < 0)) (
                    .pure (-1)) (
                    .alt (loopW (fun s => (ref01_value_L14 s.1 s.2.1 s.2.2).run) (b0, IntKind.i64.wrap ((IntKind.i64.wrap x_1) - 240), 1)) (fun l_227 =>
                      .bnd (ref01_Bytes_F l_227.2) fun c_228 =>
                      .br ((c_228.length : Int) != (l_227.1.length : Int)) (
                        .pure (-1)) (
                        .alt (loopW (fun s => (ref01_value_L23 s.1 s.2.1 s.2.2.1 s.2.2.2).run) (l_227.1, l_227.2, c_228, 0)) (fun l_229 =>
                          .pure l_229) (fun l_230 =>
                          .pure l_230))) (fun l_231 =>
                      .pure l_231))) (
                  .br (decide ((IntKind.i64.wrap x_1) < 0)) (
                    .pure (-1)) (
                    .alt (loopW (fun s => (ref01_value_L14 s.1 s.2.1 s.2.2).run) (b0, IntKind.i64.wrap x_1, 1)) (fun l_232 =>
                      .bnd (ref01_Bytes_F l_232.2) fun c_233 =>
                      .br ((c_233.length : Int) != (l_232.1.length : Int)) (
                        .pure (-1)) (
                        .alt (loopW (fun s => (ref01_value_L23 s.1 s.2.1 s.2.2.1 s.2.2.2).run) (l_232.1, l_232.2, c_233, 0)) (fun l_234 =>
                          .pure l_234) (fun l_235 =>
                          .pure l_235))) (fun l_236 =>
                      .pure l_236)))) (
                .br (decide ((IntKind.i64.wrap x_1) < 0)) (
                  .pure (-1)) (
                  .alt (loopW (fun s => (ref01_value_L14 s.1 s.2.1 s.2.2).run) (b0, IntKind.i64.wrap x_1, 1)) (fun l_237 =>
                    .bnd (ref01_Bytes_F l_237.2) fun c_238 =>
                    .br ((c_238.length : Int) != (l_237.1.length : Int)) (
                      .pure (-1)) (
                      .alt (loopW (fun s => (ref01_value_L23 s.1 s.2.1 s.2.2.1 s.2.2.2).run) (l_237.1, l_237.2, c_238, 0)) (fun l_239 =>
                        .pure l_239) (fun l_240 =>
                        .pure l_240))) (fun l_241 =>
                    .pure l_241)))) (
              .br (decide ((IntKind.i64.wrap x_1) < 0)) (
                .pure (-1)) (
                .alt (loopW (fun s => (ref01_value_L14 s.1 s.2.1 s.2.2).run) (b0, IntKind.i64.wrap x_1, 1)) (fun l_242 =>
                  .bnd (ref01_Bytes_F l_242.2) fun c_243 =>
                  .br ((c_243.length : Int) != (l_242.1.length : Int)) (
                    .pure (-1)) (
                    .alt (loopW (fun s => (ref01_value_L23 s.1 s.2.1 s.2.2.1 s.2.2.2).run) (l_242.1, l_242.2, c_243, 0)) (fun l_244 =>
                      .pure l_244) (fun l_245 =>
                      .pure l_245))) (fun l_246 =>
                  .pure l_246)))))) (
        .br ((b0.length : Int) == 3) (
          .br (decide ((IntKind.i64.wrap x_1) ≥ 224)) (
            .br (decide ((IntKind.i64.wrap x_1) < 240)) (
              .br ((b0.length : Int) == 4) (
                .br (decide ((IntKind.i64.wrap x_1) ≥ 240)) (
                  .br (decide ((IntKind.i64.wrap x_1) < 248)) (
                    .br (decide ((IntKind.i64.wrap ((IntKind.i64.wrap x_1) - 240)) < 0)) (
                      .pure (-1)) (
                      .alt (loopW (fun s => (ref01_value_L14 s.1 s.2.1 s.2.2).run) (b0, IntKind.i64.wrap ((IntKind.i64.wrap x_1) - 240), 1)) (fun l_247 =>
                        .bnd (ref01_Bytes_F l_247.2) fun c_248 =>
                        .br ((c_248.length : Int) != (l_247.1.length : Int)) (
                          .pure (-1)) (
                          .alt (loopW (fun s => (ref01_value_L23 s.1 s.2.1 s.2.2.1 s.2.2.2).run) (l_247.1, l_247.2, c_248, 0)) (fun l_249 =>
                            .pure l_249) (fun l_250 =>
                            .pure l_250))) (fun l_251 =>
                        .pure l_251))) (
                    .br (decide ((IntKind.i64.wrap ((IntKind.i64.wrap x_1) - 224)) < 0)) (
                      .pure (-1)) (
                      .alt (loopW (fun s => (ref01_value_L14 s.1 s.2.1 s.2.2).run) (b0, IntKind.i64.wrap ((IntKind.i64.wrap x_1) - 224), 1)) (fun l_252 =>
                        .bnd (ref01_Bytes_F l_252.2) fun c_253 =>
                        .br ((c_253.length : Int) != (l_252.1.length : Int)) (
                          .pure (-1)) (
                          .alt (loopW (fun s => (ref01_value_L23 s.1 s.2.1 s.2.2.1 s.2.2.2).run) (l_252.1, l_252.2, c_253, 0)) (fun l_254 =>
                            .pure l_254) (fun l_255 =>
                            .pure l_255))) (fun l_256 =>
                        .pure l_256)))) (
                  .br (decide ((IntKind.i64.wrap ((IntKind.i64.wrap x_1) - 224)) < 0)) (
                    .pure (-1)) (
                    .alt (loopW (fun s => (ref01_value_L14 s.1 s.2.1 s.2.2).run) (b0, IntKind.i64.wrap ((IntKind.i64.wrap x_1) - 224), 1)) (fun l_257 =>
                      .bnd (ref01_Bytes_F l_257.2) fun c_258 =>
                      .br ((c_258.length : Int) != (l_257.1.length : Int)) (
                        .pure (-1)) (
                        .alt (loopW (fun s => (ref01_value_L23 s.1 s.2.1 s.2.2.1 s.2.2.2).run) (l_257.1, l_257.2, c_258, 0)) (fun l_259 =>
                          .pure l_259) (fun l_260 =>
                          .pure l_260))) (fun l_261 =>
                      .pure l_261)))) (
                .br (decide ((IntKind.i64.wrap ((IntKind.i64.wrap x_1) - 224)) < 0)) (
                  .pure (-1)) (
                  .alt (loopW (fun s => (ref01_value_L14 s.1 s.2.1 s.2.2).run) (b0, IntKind.i64.wrap ((IntKind.i64.wrap x_1) - 224), 1)) (fun l_262 =>
                    .bnd (ref01_Bytes_F l_262.2) fun c_263 =>
                    .br ((c_263.length : Int) != (l_262.1.length : Int)) (
                      .pure (-1)) (
                      .alt (loopW (fun s => (ref01_value_L23 s.1 s.2.1 s.2.2.1 s.2.2.2).run) (l_262.1, l_262.2, c_263, 0)) (fun l_264 =>
                        .pure l_264) (fun l_265 =>
                        .pure l_265))) (fun l_266 =>
                    .pure l_266)))) (
              .br ((b0.length : Int) == 4) (
                .br (decide ((IntKind.i64.wrap x_1) ≥ 240)) (
                  .br (decide ((IntKind.i64.wrap x_1) < 248)) (
                    .br (decide ((IntKind.i64.wrap ((IntKind.i64.wrap x_1) - 240)) < 0)) (
                      .pure (-1)) (
                      .alt (loopW (fun s => (ref01_value_L14 s.1 s.2.1 s.2.2).run) (b0, IntKind.i64.wrap ((IntKind.i64.wrap x_1) - 240), 1)) (fun l_267 =>
                        .bnd (ref01_Bytes_F l_267.2) fun c_268 =>
                        .br ((c_268.length : Int) != (l_267.1.length : Int)) (
                          .pure (-1)) (
                          .alt (loopW (fun s => (ref01_value_L23 s.1 s.2.1 s.2.2.1 s.2.2.2).run) (l_267.1, l_267.2, c_268, 0)) (fun l_269 =>
                            .pure l_269) (fun l_270 =>
                            .pure l_270))) (fun l_271 =>
                        .pure l_271))) (
                    .br (decide ((IntKind.i64.wrap x_1) < 0)) (
                      .pure (-1)) (
                      .alt (loopW (fun s => (ref01_value_L14 s.1 s.2.1 s.2.2).run) (b0, IntKind.i64.wrap x_1, 1)) (fun l_272 =>
                        .bnd (ref01_Bytes_F l_272.2) fun c_273 =>
                        .br ((c_273.length : Int) != (l_272.1.length : Int)) (
                          .pure (-1)) (
                          .alt (loopW (fun s => (ref01_value_L23 s.1 s.2.1 s.2.2.1 s.2.2.2).run) (l_272.1, l_272.2, c_273, 0)) (fun l_274 =>
                            .pure l_274) (fun l_275 =>
                            .pure l_275))) (fun l_276 =>
                        .pure l_276)))) (
                  .br (decide ((IntKind.i64.wrap x_1) < 0)) (
                    .pure (-1)) (
                    .alt (loopW (fun s => (ref01_value_L14 s.1 s.2.1 s.2.2).run) (b0, IntKind.i64.wrap x_1, 1)) (fun l_277 =>
                      .bnd (ref01_Bytes_F l_277.2) fun c_278 =>
                      .br ((c_278.length : Int) != (l_277.1.length : Int)) (
                        .pure (-1)) (
                        .alt (loopW (fun s => (ref01_value_L23 s.1 s.2.1 s.2.2.1 s.2.2.2).run) (l_277.1, l_277.2, c_278, 0)) (fun l_279 =>
                          .pure l_279) (fun l_280 =>
                          .pure l_280))) (fun l_281 =>
                      .pure l_281)))) (
                .br (decide ((IntKind.i64.wrap x_1) < 0)) (
                  .pure (-1)) (
                  .alt (loopW (fun s => (ref01_value_L14 s.1 s.2.1 s.2.2).run) (b0, IntKind.i64.wrap x_1, 1)) (fun l_282 =>
                    .bnd (ref01_Bytes_F l_282.2) fun c_283 =>
                    .br ((c_283.length : Int) != (l_282.1.length : Int)) (
                      .pure (-1)) (
                      .alt (loopW (fun s => (ref01_value_L23 s.1 s.2.1 s.2.2.1 s.2.2.2).run) (l_282.1, l_282.2, c_283, 0)) (fun l_284 =>
                        .pure l_284) (fun l_285 =>
                        .pure l_285))) (fun l_286 =>
                    .pure l_286))))) (
            .br ((b0.length : Int) == 4) (
              .br (decide ((IntKind.i64.wrap x_1) ≥ 240)) (
                .br (decide ((IntKind.i64.wrap x_1) < 248)) (
                  .br (decide ((IntKind.i64.wrap ((IntKind.i64.wrap x_1) - 240)) < 0)) (
                    .pure (-1)) (
                    .alt (loopW (fun s => (ref01_value_L14 s.1 s.2.1 s.2.2).run) (b0, IntKind.i64.wrap ((IntKind.i64.wrap x_1) - 240), 1)) (fun l_287 =>
                      .bnd (ref01_Bytes_F l_287.2) fun c_288 =>
                      .br ((c_288.length : Int) != (l_287.1.length : Int)) (
                        .pure (-1)) (
                        .alt (loopW (fun s => (ref01_value_L23 s.1 s.2.1 s.2.2.1 s.2.2.2).run) (l_287.1, l_287.2, c_288, 0)) (fun l_289 =>
                          .pure l_289) (fun l_290 =>
                          .pure l_290))) (fun l_291 =>
                      .pure l_291))) (
                  .br (decide ((IntKind.i64.wrap x_1) < 0)) (
                    .pure (-1)) (
                    .alt (loopW (fun s => (ref01_value_L14 s.1 s.2.1 s.2.2).run) (b0, IntKind.i64.wrap x_1, 1)) (fun l_292 =>
                      .bnd (ref01_Bytes_F l_292.2) fun c_293 =>
                      .br ((c_293.length : Int) != (l_292.1.length : Int)) (
                        .pure (-1)) (
                        .alt (loopW (fun s => (ref01_value_L23 s.1 s.2.1 s.2.2.1 s.2.2.2).run) (l_292.1, l_292.2, c_293, 0)) (fun l_294 =>
                          .pure l_294) (fun l_295 =>
                          .pure l_295))) (fun l_296 =>
                      .pure l_296)))) (
                .br (decide ((IntKind.i64.wrap x_1) < 0)) (
                  .pure (-1)) (
                  .alt (loopW (fun s => (ref01_value_L14 s.1 s.2.1 s.2.2).run) (b0, IntKind.i64.wrap x_1, 1)) (fun l_297 =>
                    .bnd (ref01_Bytes_F l_297.2) fun c_298 =>
                    .br ((c_298.length : Int) != (l_297.1.length : Int)) (
                      .pure (-1)) (
                      .alt (loopW (fun s => (ref01_value_L23 s.1 s.2.1 s.2.2.1 s.2.2.2).run) (l_297.1, l_297.2, c_298, 0)) (fun l_299 =>
                        .pure l_299) (fun l_300 =>
                        .pure l_300))) (fun l_301 =>
                    .pure l_301)))) (
              .br (decide ((IntKind.i64.wrap x_1) < 0)) (
                .pure (-1)) (
                .alt (loopW (fun s => (ref01_value_L14 s.1 s.2.1 s.2.2).run) (b0, IntKind.i64.wrap x_1, 1)) (fun l_302 =>
                  .bnd (ref01_Bytes_F l_302.2) fun c_303 =>
                  .br ((c_303.length : Int) != (l_302.1.length : Int)) (
                    .pure (-1)) (
                    .alt (loopW (fun s => (ref01_value_L23 s.1 s.2.1 s.2.2.1 s.2.2.2).run) (l_302.1, l_302.2, c_303, 0)) (fun l_304 =>
                      .pure l_304) (fun l_305 =>
                      .pure l_305))) (fun l_306 =>
                  .pure l_306))))) (
          .br ((b0.length : Int) == 4) (
            .br (decide ((IntKind.i64.wrap x_1) ≥ 240)) (
              .br (decide ((IntKind.i64.wrap x_1) < 248)) (
                .br (decide ((IntKind.i64.wrap ((IntKind.i64.wrap x_1) - 240)) < 0)) (
                  .pure (-1)) (
                  .alt (loopW (fun s => (ref01_value_L14 s.1 s.2.1 s.2.2).run) (b0, IntKind.i64.wrap ((IntKind.i64.wrap x_1) - 240), 1)) (fun l_307 =>
                    .bnd (ref01_Bytes_F l_307.2) fun c_308 =>
                    .br ((c_308.length : Int) != (l_307.1.length : Int)) (
                      .pure (-1)) (
                      .alt (loopW (fun s => (ref01_value_L23 s.1 s.2.1 s.2.2.1 s.2.2.2).run) (l_307.1, l_307.2, c_308, 0)) (fun l_309 =>
                        .pure l_309) (fun l_310 =>
                        .pure l_310))) (fun l_311 =>
                    .pure l_311))) (
                .br (decide ((IntKind.i64.wrap x_1) < 0)) (
                  .pure (-1)) (
                  .alt (loopW (fun s => (ref01_value_L14 s.1 s.2.1 s.2.2).run) (b0, IntKind.i64.wrap x_1, 1)) (fun l_312 =>
                    .bnd (ref01_Bytes_F l_312.2) fun c_313 =>
                    .br ((c_313.length : Int) != (l_312.1.length : Int)) (
                      .pure (-1)) (
                      .alt (loopW (fun s => (ref01_value_L23 s.1 s.2.1 s.2.2.1 s.2.2.2).run) (l_312.1, l_312.2, c_313, 0)) (fun l_314 =>
                        .pure l_314) (fun l_315 =>
                        .pure l_315))) (fun l_316 =>
                    .pure l_316)))) (
              .br (decide ((IntKind.i64.wrap x_1) < 0)) (
                .pure (-1)) (
                .alt (loopW (fun s => (ref01_value_L14 s.1 s.2.1 s.2.2).run) (b0, IntKind.i64.wrap x_1, 1)) (fun l_317 =>
                  .bnd (ref01_Bytes_F l_317.2) fun c_318 =>
                  .br ((c_318.length : Int) != (l_317.1.length : Int)) (
                    .pure (-1)) (
                    .alt (loopW (fun s => (ref01_value_L23 s.1 s.2.1 s.2.2.1 s.2.2.2).run) (l_317.1, l_317.2, c_318, 0)) (fun l_319 =>
                      .pure l_319) (fun l_320 =>
                      .pure l_320))) (fun l_321 =>
                  .pure l_321)))) (
            .br (decide ((IntKind.i64.wrap x_1) < 0)) (
              .pure (-1)) (
              .alt (loopW (fun s => (ref01_value_L14 s.1 s.2.1 s.2.2).run) (b0, IntKind.i64.wrap x_1, 1)) (fun l_322 =>
                .bnd (ref01_Bytes_F l_322.2) fun c_323 =>
                .br ((c_323.length : Int) != (l_322.1.length : Int)) (
                  .pure (-1)) (
                  .alt (loopW (fun s => (ref01_value_L23 s.1 s.2.1 s.2.2.1 s.2.2.2).run) (l_322.1, l_322.2, c_323, 0)) (fun l_324 =>
                    .pure l_324) (fun l_325 =>
                    .pure l_325))) (fun l_326 =>
                .pure l_326)))))) (
      .br ((b0.length : Int) == 2) (
        .br (decide ((IntKind.i64.wrap x_1) ≥ 192)) (
          .br (decide ((IntKind.i64.wrap x_1) < 224)) (
            .br ((b0.length : Int) == 3) (
              .br (decide ((IntKind.i64.wrap x_1) ≥ 224)) (
                .br (decide ((IntKind.i64.wrap x_1) < 240)) (
                  .br ((b0.length : Int) == 4) (
                    .br (decide ((IntKind.i64.wrap x_1) ≥ 240)) (
                      .br (decide ((IntKind.i64.wrap x_1) < 248)) (
                        .br (decide ((IntKind.i64.wrap ((IntKind.i64.wrap x_1) - 240)) < 0)) (
                          .pure (-1)) (
                          .alt (loopW (fun s => (ref01_value_L14 s.1 s.2.1 s.2.2).run) (b0, IntKind.i64.wrap ((IntKind.i64.wrap x_1) - 240), 1)) (fun l_327 =>
                            .bnd (ref01_Bytes_F l_327.2) fun c_328 =>
                            .br ((c_328.length : Int) != (l_327.1.length : Int)) (
                              .pure (-1)) (
                              .alt (loopW (fun s => (ref01_value_L23 s.1 s.2.1 s.2.2.1 s.2.2.2).run) (l_327.1, l_327.2, c_328, 0)) (fun l_329 =>
                                .pure l_329) (fun l_330 =>
                                .pure l_330))) (fun l_331 =>
                            .pure l_331))) (
                        .br (decide ((IntKind.i64.wrap ((IntKind.i64.wrap x_1) - 224)) < 0)) (
                          .pure (-1)) (
                          .alt (loopW (fun s => (ref01_value_L14 s.1 s.2.1 s.2.2).run) (b0, IntKind.i64.wrap ((IntKind.i64.wrap x_1) - 224), 1)) (fun l_332 =>
                            .bnd (ref01_Bytes_F l_332.2) fun c_333 =>
                            .br ((c_333.length : Int) != (l_332.1.length : Int)) (
                              .pure (-1)) (
                              .alt (loopW (fun s => (ref01_value_L23 s.1 s.2.1 s.2.2.1 s.2.2.2).run) (l_332.1, l_332.2, c_333, 0)) (fun l_334 =>
                                .pure l_334) (fun l_335 =>
                                .pure l_335))) (fun l_336 =>
                            .pure l_336)))) (
                      .br (decide ((IntKind.i64.wrap ((IntKind.i64.wrap x_1) - 224)) < 0)) (
                        .pure (-1)) (
                        .alt (loopW (fun s => (ref01_value_L14 s.1 s.2.1 s.2.2).run) (b0, IntKind.i64.wrap ((IntKind.i64.wrap x_1) - 224), 1)) (fun l_337 =>
                          .bnd (ref01_Bytes_F l_337.2) fun c_338 =>
                          .br ((c_338.length : Int) != (l_337.1.length : Int)) (
                            .pure (-1)) (
                            .alt (loopW (fun s => (ref01_value_L23 s.1 s.2.1 s.2.2.1 s.2.2.2).run) (l_337.1, l_337.2, c_338, 0)) (fun l_339 =>
                              .pure l_339) (fun l_340 =>
                              .pure l_340))) (fun l_341 =>
                          .pure l_341)))) (
                    .br (decide ((IntKind.i64.wrap ((IntKind.i64.wrap x_1) - 224)) < 0)) (
                      .pure (-1)) (
                      .alt (loopW (fun s => (ref01_value_L14 s.1 s.2.1 s.2.2).run) (b0, IntKind.i64.wrap ((IntKind.i64.wrap x_1) - 224), 1)) (fun l_342 =>
                        .bnd (ref01_Bytes_F l_342.2) fun c_343 =>
                        .br ((c_343.length : Int) != (l_342.1.length : Int)) (
                          .pure (-1)) (
                          .alt (loopW (fun s => (ref01_value_L23 s.1 s.2.1 s.2.2.1 s.2.2.2).run) (l_342.1, l_342.2, c_343, 0)) (fun l_344 =>
                            .pure l_344) (fun l_345 =>
                            .pure l_345))) (fun l_346 =>
                        .pure l_346)))) (
                  .br ((b0.length : Int) == 4) (
                    .br (decide ((IntKind.i64.wrap x_1) ≥ 240)) (
                      .br (decide ((IntKind.i64.wrap x_1) < 248)) (
                        .br (decide ((IntKind.i64.wrap ((IntKind.i64.wrap x_1) - 240)) < 0)) (
                          .pure (-1)) (
                          .alt (loopW (fun s => (ref01_value_L14 s.1 s.2.1 s.2.2).run) (b0, IntKind.i64.wrap ((IntKind.i64.wrap x_1) - 240), 1)) (fun l_347 =>
                            .bnd (ref01_Bytes_F l_347.2) fun c_348 =>
                            .br ((c_348.length : Int) != (l_347.1.length : Int)) (
                              .pure (-1)) (
                              .alt (loopW (fun s => (ref01_value_L23 s.1 s.2.1 s.2.2.1 s.2.2.2).run) (l_347.1, l_347.2, c_348, 0)) (fun l_349 =>
                                .pure l_349) (fun l_350 =>
                                .pure l_350))) (fun l_351 =>
                            .pure l_351))) (
                        .br (decide ((IntKind.i64.wrap ((IntKind.i64.wrap x_1) - 192)) < 0)) (
                          .pure (-1)) (
                          .alt (loopW (fun s => (ref01_value_L14 s.1 s.2.1 s.2.2).run) (b0, IntKind.i64.wrap ((IntKind.i64.wrap x_1) - 192), 1)) (fun l_352 =>
                            .bnd (ref01_Bytes_F l_352.2) fun c_353 =>
                            .br ((c_353.length : Int) != (l_352.1.length : Int)) (
                              .pure (-1)) (
                              .alt (loopW (fun s => (ref01_value_L23 s.1 s.2.1 s.2.2.1 s.2.2.2).run) (l_352.1, l_352.2, c_353, 0)) (fun l_354 =>
                                .pure l_354) (fun l_355 =>
                                .pure l_355))) (fun l_356 =>
                            .pure l_356)))) (
                      .br (decide ((IntKind.i64.wrap ((IntKind.i64.wrap x_1) - 192)) < 0)) (
                        .pure (-1)) (
                        .alt (loopW (fun s => (ref01_value_L14 s.1 s.2.1 s.2.2).run) (b0, IntKind.i64.wrap ((IntKind.i64.wrap x_1) - 192), 1)) (fun l_357 =>
                          .bnd (ref01_Bytes_F l_357.2) fun c_358 =>
                          .br ((c_358.length : Int) != (l_357.1.length : Int)) (
                            .pure (-1)) (
                            .alt (loopW (fun s => (ref01_value_L23 s.1 s.2.1 s.2.2.1 s.2.2.2).run) (l_357.1, l_357.2, c_358, 0)) (fun l_359 =>
                              .pure l_359) (fun l_360 =>
                              .pure l_360))) (fun l_361 =>
                          .pure l_361)))) (
                    .br (decide ((IntKind.i64.wrap ((IntKind.i64.wrap x_1) - 192)) < 0)) (
                      .pure (-1)) (
                      .alt (loopW (fun s => (ref01_value_L14 s.1 s.2.1 s.2.2).run) (b0, IntKind.i64.wrap ((IntKind.i64.wrap x_1) - 192), 1)) (fun l_362 =>
                        .bnd (ref01_Bytes_F l_362.2) fun c_363 =>
                        .br ((c_363.length : Int) != (l_362.1.length : Int)) (
                          .pure (-1)) (
                          .alt (loopW (fun s => (ref01_value_L23 s.1 s.2.1 s.2.2.1 s.2.2.2).run) (l_362.1, l_362.2, c_363, 0)) (fun l_364 =>
                            .pure l_364) (fun l_365 =>
                            .pure l_365))) (fun l_366 =>
                        .pure l_366))))) (
                .br ((b0.length : Int) == 4) (
                  .br (decide ((IntKind.i64.wrap x_1) ≥ 240)) (
                    .br (decide ((IntKind.i64.wrap x_1) < 248)) (
                      .br (decide ((IntKind.i64.wrap ((IntKind.i64.wrap x_1) - 240)) < 0)) (
                        .pure (-1)) (
                        .alt (loopW (fun s => (ref01_value_L14 s.1 s.2.1 s.2.2).run) (b0, IntKind.i64.wrap ((IntKind.i64.wrap x_1) - 240), 1)) (fun l_367 =>
                          .bnd (ref01_Bytes_F l_367.2) fun c_368 =>
                          .br ((c_368.length : Int) != (l_367.1.length : Int)) (
                            .pure (-1)) (
                            .alt (loopW (fun s => (ref01_value_L23 s.1 s.2.1 s.2.2.1 s.2.2.2).run) (l_367.1, l_367.2, c_368, 0)) (fun l_369 =>
                              .pure l_369) (fun l_370 =>
                              .pure l_370))) (fun l_371 =>
                          .pure l_371))) (
                      .br (decide ((IntKind.i64.wrap ((IntKind.i64.wrap x_1) - 192)) < 0)) (
                        .pure (-1)) (
                        .alt (loopW (fun s => (ref01_value_L14 s.1 s.2.1 s.2.2).run) (b0, IntKind.i64.wrap ((IntKind.i64.wrap x_1) - 192), 1)) (fun l_372 =>
                          .bnd (ref01_Bytes_F l_372.2) fun c_373 =>
                          .br ((c_373.length : Int) != (l_372.1.length : Int)) (
                            .pure (-1)) (
                            .alt (loopW (fun s => (ref01_value_L23 s.1 s.2.1 s.2.2.1 s.2.2.2).run) (l_372.1, l_372.2, c_373, 0)) (fun l_374 =>
                              .pure l_374) (fun l_375 =>
                              .pure l_375))) (fun l_376 =>
                          .pure l_376)))) (
                    .br (decide ((IntKind.i64.wrap ((IntKind.i64.wrap x_1) - 192)) < 0)) (
                      .pure (-1)) (
                      .alt (loopW (fun s => (ref01_value_L14 s.1 s.2.1 s.2.2).run) (b0, IntKind.i64.wrap ((IntKind.i64.wrap x_1) - 192), 1)) (fun l_377 =>
                        .bnd (ref01_Bytes_F l_377.2) fun c_378 =>
                        .br ((c_378.length : Int) != (l_377.1.length : Int)) (
                          .pure (-1)) (
                          .alt (loopW (fun s => (ref01_value_L23 s.1 s.2.1 s.2.2.1 s.2.2.2).run) (l_377.1, l_377.2, c_378, 0)) (fun l_379 =>
                            .pure l_379) (fun l_380 =>
                            .pure l_380))) (fun l_381 =>
                        .pure l_381)))) (
                  .br (decide ((IntKind.i64.wrap ((IntKind.i64.wrap x_1) - 192)) < 0)) (
                    .pure (-1)) (
                    .alt (loopW (fun s => (ref01_value_L14 s.1 s.2.1 s.2.2).run) (b0, IntKind.i64.wrap ((IntKind.i64.wrap x_1) - 192), 1)) (fun l_382 =>
                      .bnd (ref01_Bytes_F l_382.2) fun c_383 =>
                      .br ((c_383.length : Int) != (l_382.1.length : Int)) (
                        .pure (-1)) (
                        .alt (loopW (fun s => (ref01_value_L23 s.1 s.2.1 s.2.2.1 s.2.2.2).run) (l_382.1, l_382.2, c_383, 0)) (fun l_384 =>
                          .pure l_384) (fun l_385 =>
                          .pure l_385))) (fun l_386 =>
                      .pure l_386))))) (
              .br ((b0.length : Int) == 4) (
                .br (decide ((IntKind.i64.wrap x_1) ≥ 240)) (
                  .br (decide ((IntKind.i64.wrap x_1) < 248)) (
                    .br (decide ((IntKind.i64.wrap ((IntKind.i64.wrap x_1) - 240)) < 0)) (
                      .pure (-1)) (
                      .alt (loopW (fun s => (ref01_value_L14 s.1 s.2.1 s.2.2).run) (b0, IntKind.i64.wrap ((IntKind.i64.wrap x_1) - 240), 1)) (fun l_387 =>
                        .bnd (ref01_Bytes_F l_387.2) fun c_388 =>
                        .br ((c_388.length : Int) != (l_387.1.length : Int)) (
                          .pure (-1)) (
                          .alt (loopW (fun s => (ref01_value_L23 s.1 s.2.1 s.2.2.1 s.2.2.2).run) (l_387.1, l_387.2, c_388, 0)) (fun l_389 =>
                            .pure l_389) (fun l_390 =>
                            .pure l_390))) (fun l_391 =>
                        .pure l_391))) (
                    .br (decide ((IntKind.i64.wrap ((IntKind.i64.wrap x_1) - 192)) < 0)) (
                      .pure (-1)) (
                      .alt (loopW (fun s => (ref01_value_L14 s.1 s.2.1 s.2.2).run) (b0, IntKind.i64.wrap ((IntKind.i64.wrap x_1) - 192), 1)) (fun l_392 =>
                        .bnd (ref01_Bytes_F l_392.2) fun c_393 =>
                        .br ((c_393.length : Int) != (l_392.1.length : Int)) (
                          .pure (-1)) (
                          .alt (loopW (fun s => (ref01_value_L23 s.1 s.2.1 s.2.2.1 s.2.2.2).run) (l_392.1, l_392.2, c_393, 0)) (fun l_394 =>
                            .pure l_394) (fun l_395 =>
                            .pure l_395))) (fun l_396 =>
                        .pure l_396)))) (
                  .br (decide ((IntKind.i64.wrap ((IntKind.i64.wrap x_1) - 192)) < 0)) (
                    .pure (-1)) (
                    .alt (loopW (fun s => (ref01_value_L14 s.1 s.2.1 s.2.2).run) (b0, IntKind.i64.wrap ((IntKind.i64.wrap x_1) - 192), 1)) (fun l_397 =>
                      .bnd (ref01_Bytes_F l_397.2) fun c_398 =>
                      .br ((c_398.length : Int) != (l_397.1.length : Int)) (
                        .pure (-1)) (
                        .alt (loopW (fun s => (ref01_value_L23 s.1 s.2.1 s.2.2.1 s.2.2.2).run) (l_397.1, l_397.2, c_398, 0)) (fun l_399 =>
                          .pure l_399) (fun l_400 =>
                          .pure l_400))) (fun l_401 =>
                      .pure l_401)))) (
                .br (decide ((IntKind.i64.wrap ((IntKind.i64.wrap x_1) - 192)) < 0)) (
                  .pure (-1)) (
                  .alt (loopW (fun s => (ref01_value_L14 s.1 s.2.1 s.2.2).run) (b0, IntKind.i64.wrap ((IntKind.i64.wrap x_1) - 192), 1)) (fun l_402 =>
                    .bnd (ref01_Bytes_F l_402.2) fun c_403 =>
                    .br ((c_403.length : Int) != (l_402.1.length : Int)) (
                      .pure (-1)) (
                      .alt (loopW (fun s => (ref01_value_L23 s.1 s.2.1 s.2.2.1 s.2.2.2).run) (l_402.1, l_402.2, c_403, 0)) (fun l_404 =>
                        .pure l_404) (fun l_405 =>
                        .pure l_405))) (fun l_406 =>
                    .pure l_406))))) (
            .br ((b0.length : Int) == 3) (
              .br (decide ((IntKind.i64.wrap x_1) ≥ 224)) (
                .br (decide ((IntKind.i64.wrap x_1) < 240)) (
                  .br ((b0.length : Int) == 4) (
                    .br (decide ((IntKind.i64.wrap x_1) ≥ 240)) (
                      .br (decide ((IntKind.i64.wrap x_1) < 248)) (
                        .br (decide ((IntKind.i64.wrap ((IntKind.i64.wrap x_1) - 240)) < 0)) (
                          .pure (-1)) (
                          .alt (loopW (fun s => (ref01_value_L14 s.1 s.2.1 s.2.2).run) (b0, IntKind.i64.wrap ((IntKind.i64.wrap x_1) - 240), 1)) (fun l_407 =>
                            .bnd (ref01_Bytes_F l_407.2) fun c_408 =>
                            .br ((c_408.length : Int) != (l_407.1.length : Int)) (
                              .pure (-1)) (
                              .alt (loopW (fun s => (ref01_value_L23 s.1 s.2.1 s.2.2.1 s.2.2.2).run) (l_407.1, l_407.2, c_408, 0)) (fun l_409 =>
                                .pure l_409) (fun l_410 =>
                                .pure l_410))) (fun l_411 =>
                            .pure l_411))) (
                        .br (decide ((IntKind.i64.wrap ((IntKind.i64.wrap x_1) - 224)) < 0)) (
                          .pure (-1)) (
                          .alt (loopW (fun s => (ref01_value_L14 s.1 s.2.1 s.2.2).run) (b0, IntKind.i64.wrap ((IntKind.i64.wrap x_1) - 224), 1)) (fun l_412 =>
                            .bnd (ref01_Bytes_F l_412.2) fun c_413 =>
                            .br ((c_413.length : Int) != (l_412.1.length : Int)) (
                              .pure (-1)) (
                              .alt (loopW (fun s => (ref01_value_L23 s.1 s.2.1 s.2.2.1 s.2.2.2).run) (l_412.1, l_412.2, c_413, 0)) (fun l_414 =>
                                .pure l_414) (fun l_415 =>
                                .pure l_415))) (fun l_416 =>
                            .pure l_416)))) (
                      .br (decide ((IntKind.i64.wrap ((IntKind.i64.wrap x_1) - 224)) < 0)) (
                        .pure (-1)) (
                        .alt (loopW (fun s => (ref01_value_L14 s.1 s.2.1 s.2.2).run) (b0, IntKind.i64.wrap ((IntKind.i64.wrap x_1) - 224), 1)) (fun l_417 =>
                          .bnd (ref01_Bytes_F l_417.2) fun c_418 =>
                          .br ((c_418.length : Int) != (l_417.1.length : Int)) (
                            .pure (-1)) (
                            .alt (loopW (fun s => (ref01_value_L23 s.1 s.2.1 s.2.2.1 s.2.2.2).run) (l_417.1, l_417.2, c_418, 0)) (fun l_419 =>
                              .pure l_419) (fun l_420 =>
                              .pure l_420))) (fun l_421 =>
                          .pure l_421)))) (
                    .br (decide ((IntKind.i64.wrap ((IntKind.i64.wrap x_1) - 224)) < 0)) (
                      .pure (-1)) (
                      .alt (loopW (fun s => (ref01_value_L14 s.1 s.2.1 s.2.2).run) (b0, IntKind.i64.wrap ((IntKind.i64.wrap x_1) - 224), 1)) (fun l_422 =>
                        .bnd (ref01_Bytes_F l_422.2) fun c_423 =>
                        .br ((c_423.length : Int) != (l_422.1.length : Int)) (
                          .pure (-1)) (
                          .alt (loopW (fun s => (ref01_value_L23 s.1 s.2.1 s.2.2.1 s.2.2.2).run) (l_422.1, l_422.2, c_423, 0)) (fun l_424 =>
                            .pure l_424) (fun l_425 =>
                            .pure l_425))) (fun l_426 =>
                        .pure l_426)))) (
                  .br ((b0.length : Int) == 4) (
                    .br (decide ((IntKind.i64.wrap x_1) ≥ 240)) (
                      .br (decide ((IntKind.i64.wrap x_1) < 248)) (
                        .br (decide ((IntKind.i64.wrap ((IntKind.i64.wrap x_1) - 240)) < 0)) (
                          .pure (-1)) (
                          .alt (loopW (fun s => (ref01_value_L14 s.1 s.2.1 s.2.2).run) (b0, IntKind.i64.wrap ((IntKind.i64.wrap x_1) - 240), 1)) (fun l_427 =>
                            .bnd (ref01_Bytes_F l_427.2) fun c_428 =>
                            .br ((c_428.length : Int) != (l_427.1.length : Int)) (
                              .pure (-1)) (
                              .alt (loopW (fun s => (ref01_value_L23 s.1 s.2.1 s.2.2.1 s.2.2.2).run) (l_427.1, l_427.2, c_428, 0)) (fun l_429 =>
                                .pure l_429) (fun l_430 =>
                                .pure l_430))) (fun l_431 =>
                            .pure l_431))) (
                        .br (decide ((-1) < 0)) (
                          .pure (-1)) (
                          .alt (loopW (fun s => (ref01_value_L14 s.1 s.2.1 s.2.2).run) (b0, (-1), 1)) (fun l_432 =>
                            .bnd (ref01_Bytes_F l_432.2) fun c_433 =>
                            .br ((c_433.length : Int) != (l_432.1.length : Int)) (
                              .pure (-1)) (
                              .alt (loopW (fun s => (ref01_value_L23 s.1 s.2.1 s.2.2.1 s.2.2.2).run) (l_432.1, l_432.2, c_433, 0)) (fun l_434 =>
                                .pure l_434) (fun l_435 =>
                                .pure l_435))) (fun l_436 =>
                            .pure l_436)))) (
                      .br (decide ((-1) < 0)) (
                        .pure (-1)) (
                        .alt (loopW (fun s => (ref01_value_L14 s.1 s.2.1 s.2.2).run) (b0, (-1), 1)) (fun l_437 =>
                          .bnd (ref01_Bytes_F l_437.2) fun c_438 =>
                          .br ((c_438.length : Int) != (l_437.1.length : Int)) (
                            .pure (-1)) (
                            .alt (loopW (fun s => (ref01_value_L23 s.1 s.2.1 s.2.2.1 s.2.2.2).run) (l_437.1, l_437.2, c_438, 0)) (fun l_439 =>
                              .pure l_439) (fun l_440 =>
                              .pure l_440))) (fun l_441 =>
                          .pure l_441)))) (
                    .br (decide ((-1) < 0)) (
                      .pure (-1)) (
                      .alt (loopW (fun s => (ref01_value_L14 s.1 s.2.1 s.2.2).run) (b0, (-1), 1)) (fun l_442 =>
                        .bnd (ref01_Bytes_F l_442.2) fun c_443 =>
                        .br ((c_443.length : Int) != (l_442.1.length : Int)) (
                          .pure (-1)) (
                          .alt (loopW (fun s => (ref01_value_L23 s.1 s.2.1 s.2.2.1 s.2.2.2).run) (l_442.1, l_442.2, c_443, 0)) (fun l_444 =>
                            .pure l_444) (fun l_445 =>
                            .pure l_445))) (fun l_446 =>
                        .pure l_446))))) (
                .br ((b0.length : Int) == 4) (
                  .br (decide ((IntKind.i64.wrap x_1) ≥ 240)) (
                    .br (decide ((IntKind.i64.wrap x_1) < 248)) (
                      .br (decide ((IntKind.i64.wrap ((IntKind.i64.wrap x_1) - 240)) < 0)) (
                        .pure (-1)) (
                        .alt (loopW (fun s => (ref01_value_L14 s.1 s.2.1 s.2.2).run) (b0, IntKind.i64.wrap ((IntKind.i64.wrap x_1) - 240), 1)) (fun l_447 =>
                          .bnd (ref01_Bytes_F l_447.2) fun c_448 =>
                          .br ((c_448.length : Int) != (l_447.1.length : Int)) (
                            .pure (-1)) (
                            .alt (loopW (fun s => (ref01_value_L23 s.1 s.2.1 s.2.2.1 s.2.2.2).run) (l_447.1, l_447.2, c_448, 0)) (fun l_449 =>
                              .pure l_449) (fun l_450 =>
                              .pure l_450))) (fun l_451 =>
                          .pure l_451))) (
                      .br (decide ((-1) < 0)) (
                        .pure (-1)) (
                        .alt (loopW (fun s => (ref01_value_L14 s.1 s.2.1 s.2.2).run) (b0, (-1), 1)) (fun l_452 =>
                          .bnd (ref01_Bytes_F l_452.2) fun c_453 =>
                          .br ((c_453.length : Int) != (l_452.1.length : Int)) (
                            .pure (-1)) (
                            .alt (loopW (fun s => (ref01_value_L23 s.1 s.2.1 s.2.2.1 s.2.2.2).run) (l_452.1, l_452.2, c_453, 0)) (fun l_454 =>
                              .pure l_454) (fun l_455 =>
                              .pure l_455))) (fun l_456 =>
                          .pure l_456)))) (
                    .br (decide ((-1) < 0)) (
                      .pure (-1)) (
                      .alt (loopW (fun s => (ref01_value_L14 s.1 s.2.1 s.2.2).run) (b0, (-1), 1)) (fun l_457 =>
                        .bnd (ref01_Bytes_F l_457.2) fun c_458 =>
                        .br ((c_458.length : Int) != (l_457.1.length : Int)) (
                          .pure (-1)) (
                          .alt (loopW (fun s => (ref01_value_L23 s.1 s.2.1 s.2.2.1 s.2.2.2).run) (l_457.1, l_457.2, c_458, 0)) (fun l_459 =>
                            .pure l_459) (fun l_460 =>
                            .pure l_460))) (fun l_461 =>
                        .pure l_461)))) (
                  .br (decide ((-1) < 0)) (
                    .pure (-1)) (
                    .alt (loopW (fun s => (ref01_value_L14 s.1 s.2.1 s.2.2).run) (b0, (-1), 1)) (fun l_462 =>
                      .bnd (ref01_Bytes_F l_462.2) fun c_463 =>
                      .br ((c_463.length : Int) != (l_462.1.length : Int)) (
                        .pure (-1)) (
                        .alt (loopW (fun s => (ref01_value_L23 s.1 s.2.1 s.2.2.1 s.2.2.2).run) (l_462.1, l_462.2, c_463, 0)) (fun l_464 =>
                          .pure l_464) (fun l_465 =>
                          .pure l_465))) (fun l_466 =>
                      .pure l_466))))) (
              .br ((b0.length : Int) == 4) (
                .br (decide ((IntKind.i64.wrap x_1) ≥ 240)) (
                  .br (decide ((IntKind.i64.wrap x_1) < 248)) (
                    .br (decide ((IntKind.i64.wrap ((IntKind.i64.wrap x_1) - 240)) < 0)) (
                      .pure (-1)) (
                      .alt (loopW (fun s => (ref01_value_L14 s.1 s.2.1 s.2.2).run) (b0, IntKind.i64.wrap ((IntKind.i64.wrap x_1) - 240), 1)) (fun l_467 =>
                        .bnd (ref01_Bytes_F l_467.2) fun c_468 =>
                        .br ((c_468.length : Int) != (l_467.1.length : Int)) (
                          .pure (-1)) (
                          .alt (loopW (fun s => (ref01_value_L23 s.1 s.2.1 s.2.2.1 s.2.2.2).run) (l_467.1, l_467.2, c_468, 0)) (fun l_469 =>
                            .pure l_469) (fun l_470 =>
                            .pure l_470))) (fun l_471 =>
                        .pure l_471))) (
                    .br (decide ((-1) < 0)) (
                      .pure (-1)) (
                      .alt (loopW (fun s => (ref01_value_L14 s.1 s.2.1 s.2.2).run) (b0, (-1), 1)) (fun l_472 =>
                        .bnd (ref01_Bytes_F l_472.2) fun c_473 =>
                        .br ((c_473.length : Int) != (l_472.1.length : Int)) (
                          .pure (-1)) (
                          .alt (loopW (fun s => (ref01_value_L23 s.1 s.2.1 s.2.2.1 s.2.2.2).run) (l_472.1, l_472.2, c_473, 0)) (fun l_474 =>
                            .pure l_474) (fun l_475 =>
                            .pure l_475))) (fun l_476 =>
                        .pure l_476)))) (
                  .br (decide ((-1) < 0)) (
                    .pure (-1)) (
                    .alt (loopW (fun s => (ref01_value_L14 s.1 s.2.1 s.2.2).run) (b0, (-1), 1)) (fun l_477 =>
                      .bnd (ref01_Bytes_F l_477.2) fun c_478 =>
                      .br ((c_478.length : Int) != (l_477.1.length : Int)) (
                        .pure (-1)) (
                        .alt (loopW (fun s => (ref01_value_L23 s.1 s.2.1 s.2.2.1 s.2.2.2).run) (l_477.1, l_477.2, c_478, 0)) (fun l_479 =>
                          .pure l_479) (fun l_480 =>
                          .pure l_480))) (fun l_481 =>
                      .pure l_481)))) (
                .br (decide ((-1) < 0)) (
                  .pure (-1)) (
                  .alt (loopW (fun s => (ref01_value_L14 s.1 s.2.1 s.2.2).run) (b0, (-1), 1)) (fun l_482 =>
                    .bnd (ref01_Bytes_F l_482.2) fun c_483 =>
                    .br ((c_483.length : Int) != (l_482.1.length : Int)) (
                      .pure (-1)) (
                      .alt (loopW (fun s => (ref01_value_L23 s.1 s.2.1 s.2.2.1 s.2.2.2).run) (l_482.1, l_482.2, c_483, 0)) (fun l_484 =>
                        .pure l_484) (fun l_485 =>
                        .pure l_485))) (fun l_486 =>
                    .pure l_486)))))) (
          .br ((b0.length : Int) == 3) (
            .br (decide ((IntKind.i64.wrap x_1) ≥ 224)) (
              .br (decide ((IntKind.i64.wrap x_1) < 240)) (
                .br ((b0.length : Int) == 4) (
                  .br (decide ((IntKind.i64.wrap x_1) ≥ 240)) (
                    .br (decide ((IntKind.i64.wrap x_1) < 248)) (
                      .br (decide ((IntKind.i64.wrap ((IntKind.i64.wrap x_1) - 240)) < 0)) (
                        .pure (-1)) (
                        .alt (loopW (fun s => (ref01_value_L14 s.1 s.2.1 s.2.2).run) (b0, IntKind.i64.wrap ((IntKind.i64.wrap x_1) - 240), 1)) (fun l_487 =>
                          .bnd (ref01_Bytes_F l_487.2) fun c_488 =>
                          .br ((c_488.length : Int) != (l_487.1.length : Int)) (
                            .pure (-1)) (
                            .alt (loopW (fun s => (ref01_value_L23 s.1 s.2.1 s.2.2.1 s.2.2.2).run) (l_487.1, l_487.2, c_488, 0)) (fun l_489 =>
                              .pure l_489) (fun l_490 =>
                              .pure l_490))) (fun l_491 =>
                          .pure l_491))) (
                      .br (decide ((IntKind.i64.wrap ((IntKind.i64.wrap x_1) - 224)) < 0)) (
                        .pure (-1)) (
                        .alt (loopW (fun s => (ref01_value_L14 s.1 s.2.1 s.2.2).run) (b0, IntKind.i64.wrap ((IntKind.i64.wrap x_1) - 224), 1)) (fun l_492 =>
                          .bnd (ref01_Bytes_F l_492.2) fun c_493 =>
                          .br ((c_493.length : Int) != (l_492.1.length : Int)) (
                            .pure (-1)) (
                            .alt (loopW (fun s => (ref01_value_L23 s.1 s.2.1 s.2.2.1 s.2.2.2).run) (l_492.1, l_492.2, c_493, 0)) (fun l_494 =>
                              .pure l_494) (fun l_495 =>
                              .pure l_495))) (fun l_496 =>
                          .pure l_496)))) (
                    .br (decide ((IntKind.i64.wrap ((IntKind.i64.wrap x_1) - 224)) < 0)) (
                      .pure (-1)) (
                      .alt (loopW (fun s => (ref01_value_L14 s.1 s.2.1 s.2.2).run) (b0, IntKind.i64.wrap ((IntKind.i64.wrap x_1) - 224), 1)) (fun l_497 =>
                        .bnd (ref01_Bytes_F l_497.2) fun c_498 =>
                        .br ((c_498.length : Int) != (l_497.1.length : Int)) (
                          .pure (-1)) (
                          .alt (loopW (fun s => (ref01_value_L23 s.1 s.2.1 s.2.2.1 s.2.2.2).run) (l_497.1, l_497.2, c_498, 0)) (fun l_499 =>
                            .pure l_499) (fun l_500 =>
                            .pure l_500))) (fun l_501 =>
                        .pure l_501)))) (
                  .br (decide ((IntKind.i64.wrap ((IntKind.i64.wrap x_1) - 224)) < 0)) (
                    .pure (-1)) (
                    .alt (loopW (fun s => (ref01_value_L14 s.1 s.2.1 s.2.2).run) (b0, IntKind.i64.wrap ((IntKind.i64.wrap x_1) - 224), 1)) (fun l_502 =>
                      .bnd (ref01_Bytes_F l_502.2) fun c_503 =>
                      .br ((c_503.length : Int) != (l_502.1.length : Int)) (
                        .pure (-1)) (
                        .alt (loopW (fun s => (ref01_value_L23 s.1 s.2.1 s.2.2.1 s.2.2.2).run) (l_502.1, l_502.2, c_503, 0)) (fun l_504 =>
                          .pure l_504) (fun l_505 =>
                          .pure l_505))) (fun l_506 =>
                      .pure l_506)))) (
                .br ((b0.length : Int) == 4) (
                  .br (decide ((IntKind.i64.wrap x_1) ≥ 240)) (
                    .br (decide ((IntKind.i64.wrap x_1) < 248)) (
                      .br (decide ((IntKind.i64.wrap ((IntKind.i64.wrap x_1) - 240)) < 0)) (
                        .pure (-1)) (
                        .alt (loopW (fun s => (ref01_value_L14 s.1 s.2.1 s.2.2).run) (b0, IntKind.i64.wrap ((IntKind.i64.wrap x_1) - 240), 1)) (fun l_507 =>
                          .bnd (ref01_Bytes_F l_507.2) fun c_508 =>
                          .br ((c_508.length : Int) != (l_507.1.length : Int)) (
                            .pure (-1)) (
                            .alt (loopW (fun s => (ref01_value_L23 s.1 s.2.1 s.2.2.1 s.2.2.2).run) (l_507.1, l_507.2, c_508, 0)) (fun l_509 =>
                              .pure l_509) (fun l_510 =>
                              .pure l_510))) (fun l_511 =>
                          .pure l_511))) (
                      .br (decide ((-1) < 0)) (
                        .pure (-1)) (
                        .alt (loopW (fun s => (ref01_value_L14 s.1 s.2.1 s.2.2).run) (b0, (-1), 1)) (fun l_512 =>
                          .bnd (ref01_Bytes_F l_512.2) fun c_513 =>
                          .br ((c_513.length : Int) != (l_512.1.length : Int)) (
                            .pure (-1)) (
                            .alt (loopW (fun s => (ref01_value_L23 s.1 s.2.1 s.2.2.1 s.2.2.2).run) (l_512.1, l_512.2, c_513, 0)) (fun l_514 =>
                              .pure l_514) (fun l_515 =>
                              .pure l_515))) (fun l_516 =>
                          .pure l_516)))) (
                    .br (decide ((-1) < 0)) (
                      .pure (-1)) (
                      .alt (loopW (fun s => (ref01_value_L14 s.1 s.2.1 s.2.2).run) (b0, (-1), 1)) (fun l_517 =>
                        .bnd (ref01_Bytes_F l_517.2) fun c_518 =>
                        .br ((c_518.length : Int) != (l_517.1.length : Int)) (
                          .pure (-1)) (
                          .alt (loopW (fun s => (ref01_value_L23 s.1 s.2.1 s.2.2.1 s.2.2.2).run) (l_517.1, l_517.2, c_518, 0)) (fun l_519 =>
                            .pure l_519) (fun l_520 =>
                            .pure l_520))) (fun l_521 =>
                        .pure l_521)))) (
                  .br (decide ((-1) < 0)) (
                    .pure (-1)) (
                    .alt (loopW (fun s => (ref01_value_L14 s.1 s.2.1 s.2.2).run) (b0, (-1), 1)) (fun l_522 =>
                      .bnd (ref01_Bytes_F l_522.2) fun c_523 =>
                      .br ((c_523.length : Int) != (l_522.1.length : Int)) (
                        .pure (-1)) (
                        .alt (loopW (fun s => (ref01_value_L23 s.1 s.2.1 s.2.2.1 s.2.2.2).run) (l_522.1, l_522.2, c_523, 0)) (fun l_524 =>
                          .pure l_524) (fun l_525 =>
                          .pure l_525))) (fun l_526 =>
                      .pure l_526))))) (
              .br ((b0.length : Int) == 4) (
                .br (decide ((IntKind.i64.wrap x_1) ≥ 240)) (
                  .br (decide ((IntKind.i64.wrap x_1) < 248)) (
                    .br (decide ((IntKind.i64.wrap ((IntKind.i64.wrap x_1) - 240)) < 0)) (
                      .pure (-1)) (
                      .alt (loopW (fun s => (ref01_value_L14 s.1 s.2.1 s.2.2).run) (b0, IntKind.i64.wrap ((IntKind.i64.wrap x_1) - 240), 1)) (fun l_527 =>
                        .bnd (ref01_Bytes_F l_527.2) fun c_528 =>
                        .br ((c_528.length : Int) != (l_527.1.length : Int)) (
                          .pure (-1)) (
                          .alt (loopW (fun s => (ref01_value_L23 s.1 s.2.1 s.2.2.1 s.2.2.2).run) (l_527.1, l_527.2, c_528, 0)) (fun l_529 =>
                            .pure l_529) (fun l_530 =>
                            .pure l_530))) (fun l_531 =>
                        .pure l_531))) (
                    .br (decide ((-1) < 0)) (
                      .pure (-1)) (
                      .alt (loopW (fun s => (ref01_value_L14 s.1 s.2.1 s.2.2).run) (b0, (-1), 1)) (fun l_532 =>
                        .bnd (ref01_Bytes_F l_532.2) fun c_533 =>
                        .br ((c_533.length : Int) != (l_532.1.length : Int)) (
                          .pure (-1)) (
                          .alt (loopW (fun s => (ref01_value_L23 s.1 s.2.1 s.2.2.1 s.2.2.2).run) (l_532.1, l_532.2, c_533, 0)) (fun l_534 =>
                            .pure l_534) (fun l_535 =>
                            .pure l_535))) (fun l_536 =>
                        .pure l_536)))) (
                  .br (decide ((-1) < 0)) (
                    .pure (-1)) (
                    .alt (loopW (fun s => (ref01_value_L14 s.1 s.2.1 s.2.2).run) (b0, (-1), 1)) (fun l_537 =>
                      .bnd (ref01_Bytes_F l_537.2) fun c_538 =>
                      .br ((c_538.length : Int) != (l_537.1.length : Int)) (
                        .pure (-1)) (
                        .alt (loopW (fun s => (ref01_value_L23 s.1 s.2.1 s.2.2.1 s.2.2.2).run) (l_537.1, l_537.2, c_538, 0)) (fun l_539 =>
                          .pure l_539) (fun l_540 =>
                          .pure l_540))) (fun l_541 =>
                      .pure l_541)))) (
                .br (decide ((-1) < 0)) (
                  .pure (-1)) (
                  .alt (loopW (fun s => (ref01_value_L14 s.1 s.2.1 s.2.2).run) (b0, (-1), 1)) (fun l_542 =>
                    .bnd (ref01_Bytes_F l_542.2) fun c_543 =>
                    .br ((c_543.length : Int) != (l_542.1.length : Int)) (
                      .pure (-1)) (
                      .alt (loopW (fun s => (ref01_value_L23 s.1 s.2.1 s.2.2.1 s.2.2.2).run) (l_542.1, l_542.2, c_543, 0)) (fun l_544 =>
                        .pure l_544) (fun l_545 =>
                        .pure l_545))) (fun l_546 =>
                    .pure l_546))))) (
            .br ((b0.length : Int) == 4) (
              .br (decide ((IntKind.i64.wrap x_1) ≥ 240)) (
                .br (decide ((IntKind.i64.wrap x_1) < 248)) (
                  .br (decide ((IntKind.i64.wrap ((IntKind.i64.wrap x_1) - 240)) < 0)) (
                    .pure (-1)) (
                    .alt (loopW (fun s => (ref01_value_L14 s.1 s.2.1 s.2.2).run) (b0, IntKind.i64.wrap ((IntKind.i64.wrap x_1) - 240), 1)) (fun l_547 =>
                      .bnd (ref01_Bytes_F l_547.2) fun c_548 =>
                      .br ((c_548.length : Int) != (l_547.1.length : Int)) (
                        .pure (-1)) (
                        .alt (loopW (fun s => (ref01_value_L23 s.1 s.2.1 s.2.2.1 s.2.2.2).run) (l_547.1, l_547.2, c_548, 0)) (fun l_549 =>
                          .pure l_549) (fun l_550 =>
                          .pure l_550))) (fun l_551 =>
                      .pure l_551))) (
                  .br (decide ((-1) < 0)) (
                    .pure (-1)) (
                    .alt (loopW (fun s => (ref01_value_L14 s.1 s.2.1 s.2.2).run) (b0, (-1), 1)) (fun l_552 =>
                      .bnd (ref01_Bytes_F l_552.2) fun c_553 =>
                      .br ((c_553.length : Int) != (l_552.1.length : Int)) (
                        .pure (-1)) (
                        .alt (loopW (fun s => (ref01_value_L23 s.1 s.2.1 s.2.2.1 s.2.2.2).run) (l_552.1, l_552.2, c_553, 0)) (fun l_554 =>
                          .pure l_554) (fun l_555 =>
                          .pure l_555))) (fun l_556 =>
                      .pure l_556)))) (
                .br (decide ((-1) < 0)) (
                  .pure (-1)) (
                  .alt (loopW (fun s => (ref01_value_L14 s.1 s.2.1 s.2.2).run) (b0, (-1), 1)) (fun l_557 =>
                    .bnd (ref01_Bytes_F l_557.2) fun c_558 =>
                    .br ((c_558.length : Int) != (l_557.1.length : Int)) (
                      .pure (-1)) (
                      .alt (loopW (fun s => (ref01_value_L23 s.1 s.2.1 s.2.2.1 s.2.2.2).run) (l_557.1, l_557.2, c_558, 0)) (fun l_559 =>
                        .pure l_559) (fun l_560 =>
                        .pure l_560))) (fun l_561 =>
                    .pure l_561)))) (
              .br (decide ((-1) < 0)) (
                .pure (-1)) (
                .alt (loopW (fun s => (ref01_value_L14 s.1 s.2.1 s.2.2).run) (b0, (-1), 1)) (fun l_562 =>
                  .bnd (ref01_Bytes_F l_562.2) fun c_563 =>
                  .br ((c_563.length : Int) != (l_562.1.length : Int)) (
                    .pure (-1)) (
                    .alt (loopW (fun s => (ref01_value_L23 s.1 s.2.1 s.2.2.1 s.2.2.2).run) (l_562.1, l_562.2, c_563, 0)) (fun l_564 =>
                      .pure l_564) (fun l_565 =>
                      .pure l_565))) (fun l_566 =>
                  .pure l_566)))))) (
        .br ((b0.length : Int) == 3) (
          .br (decide ((IntKind.i64.wrap x_1) ≥ 224)) (
            .br (decide ((IntKind.i64.wrap x_1) < 240)) (
              .br ((b0.length : Int) == 4) (
                .br (decide ((IntKind.i64.wrap x_1) ≥ 240)) (
                  .br (decide ((IntKind.i64.wrap x_1) < 248)) (
                    .br (decide ((IntKind.i64.wrap ((IntKind.i64.wrap x_1) - 240)) < 0)) (
                      .pure (-1)) (
                      .alt (loopW (fun s => (ref01_value_L14 s.1 s.2.1 s.2.2).run) (b0, IntKind.i64.wrap ((IntKind.i64.wrap x_1) - 240), 1)) (fun l_567 =>
                        .bnd (ref01_Bytes_F l_567.2) fun c_568 =>
                        .br ((c_568.length : Int) != (l_567.1.length : Int)) (
                          .pure (-1)) (
                          .alt (loopW (fun s => (ref01_value_L23 s.1 s.2.1 s.2.2.1 s.2.2.2).run) (l_567.1, l_567.2, c_568, 0)) (fun l_569 =>
                            .pure l_569) (fun l_570 =>
                            .pure l_570))) (fun l_571 =>
                        .pure l_571))) (
                    .br (decide ((IntKind.i64.wrap ((IntKind.i64.wrap x_1) - 224)) < 0)) (
                      .pure (-1)) (
                      .alt (loopW (fun s => (ref01_value_L14 s.1 s.2.1 s.2.2).run) (b0, IntKind.i64.wrap ((IntKind.i64.wrap x_1) - 224), 1)) (fun l_572 =>
                        .bnd (ref01_Bytes_F l_572.2) fun c_573 =>
                        .br ((c_573.length : Int) != (l_572.1.length : Int)) (
                          .pure (-1)) (
                          .alt (loopW (fun s => (ref01_value_L23 s.1 s.2.1 s.2.2.1 s.2.2.2).run) (l_572.1, l_572.2, c_573, 0)) (fun l_574 =>
                            .pure l_574) (fun l_575 =>
                            .pure l_575))) (fun l_576 =>
                        .pure l_576)))) (
                  .br (decide ((IntKind.i64.wrap ((IntKind.i64.wrap x_1) - 224)) < 0)) (
                    .pure (-1)) (
                    .alt (loopW (fun s => (ref01_value_L14 s.1 s.2.1 s.2.2).run) (b0, IntKind.i64.wrap ((IntKind.i64.wrap x_1) - 224), 1)) (fun l_577 =>
                      .bnd (ref01_Bytes_F l_577.2) fun c_578 =>
                      .br ((c_578.length : Int) != (l_577.1.length : Int)) (
                        .pure (-1)) (
                        .alt (loopW (fun s => (ref01_value_L23 s.1 s.2.1 s.2.2.1 s.2.2.2).run) (l_577.1, l_577.2, c_578, 0)) (fun l_579 =>
                          .pure l_579) (fun l_580 =>
                          .pure l_580))) (fun l_581 =>
                      .pure l_581)))) (
                .br (decide ((IntKind.i64.wrap ((IntKind.i64.wrap x_1) - 224)) < 0)) (
                  .pure (-1)) (
                  .alt (loopW (fun s => (ref01_value_L14 s.1 s.2.1 s.2.2).run) (b0, IntKind.i64.wrap ((IntKind.i64.wrap x_1) - 224), 1)) (fun l_582 =>
                    .bnd (ref01_Bytes_F l_582.2) fun c_583 =>
                    .br ((c_583.length : Int) != (l_582.1.length : Int)) (
                      .pure (-1)) (
                      .alt (loopW (fun s => (ref01_value_L23 s.1 s.2.1 s.2.2.1 s.2.2.2).run) (l_582.1, l_582.2, c_583, 0)) (fun l_584 =>
                        .pure l_584) (fun l_585 =>
                        .pure l_585))) (fun l_586 =>
                    .pure l_586)))) (
              .br ((b0.length : Int) == 4) (
                .br (decide ((IntKind.i64.wrap x_1) ≥ 240)) (
                  .br (decide ((IntKind.i64.wrap x_1) < 248)) (
                    .br (decide ((IntKind.i64.wrap ((IntKind.i64.wrap x_1) - 240)) < 0)) (
                      .pure (-1)) (
                      .alt (loopW (fun s => (ref01_value_L14 s.1 s.2.1 s.2.2).run) (b0, IntKind.i64.wrap ((IntKind.i64.wrap x_1) - 240), 1)) (fun l_587 =>
                        .bnd (ref01_Bytes_F l_587.2) fun c_588 =>
                        .br ((c_588.length : Int) != (l_587.1.length : Int)) (
                          .pure (-1)) (
                          .alt (loopW (fun s => (ref01_value_L23 s.1 s.2.1 s.2.2.1 s.2.2.2).run) (l_587.1, l_587.2, c_588, 0)) (fun l_589 =>
                            .pure l_589) (fun l_590 =>
                            .pure l_590))) (fun l_591 =>
                        .pure l_591))) (
                    .br (decide ((-1) < 0)) (
                      .pure (-1)) (
                      .alt (loopW (fun s => (ref01_value_L14 s.1 s.2.1 s.2.2).run) (b0, (-1), 1)) (fun l_592 =>
                        .bnd (ref01_Bytes_F l_592.2) fun c_593 =>
                        .br ((c_593.length : Int) != (l_592.1.length : Int)) (
                          .pure (-1)) (
                          .alt (loopW (fun s => (ref01_value_L23 s.1 s.2.1 s.2.2.1 s.2.2.2).run) (l_592.1, l_592.2, c_593, 0)) (fun l_594 =>
                            .pure l_594) (fun l_595 =>
                            .pure l_595))) (fun l_596 =>
                        .pure l_596)))) (
                  .br (decide ((-1) < 0)) (
                    .pure (-1)) (
                    .alt (loopW (fun s => (ref01_value_L14 s.1 s.2.1 s.2.2).run) (b0, (-1), 1)) (fun l_597 =>
                      .bnd (ref01_Bytes_F l_597.2) fun c_598 =>
                      .br ((c_598.length : Int) != (l_597.1.length : Int)) (
                        .pure (-1)) (
                        .alt (loopW (fun s => (ref01_value_L23 s.1 s.2.1 s.2.2.1 s.2.2.2).run) (l_597.1, l_597.2, c_598, 0)) (fun l_599 =>
                          .pure l_599) (fun l_600 =>
                          .pure l_600))) (fun l_601 =>
                      .pure l_601)))) (
                .br (decide ((-1) < 0)) (
                  .pure (-1)) (
                  .alt (loopW (fun s => (ref01_value_L14 s.1 s.2.1 s.2.2).run) (b0, (-1), 1)) (fun l_602 =>
                    .bnd (ref01_Bytes_F l_602.2) fun c_603 =>
                    .br ((c_603.length : Int) != (l_602.1.length : Int)) (
                      .pure (-1)) (
                      .alt (loopW (fun s => (ref01_value_L23 s.1 s.2.1 s.2.2.1 s.2.2.2).run) (l_602.1, l_602.2, c_603, 0)) (fun l_604 =>
                        .pure l_604) (fun l_605 =>
                        .pure l_605))) (fun l_606 =>
                    .pure l_606))))) (
            .br ((b0.length : Int) == 4) (
              .br (decide ((IntKind.i64.wrap x_1) ≥ 240)) (
                .br (decide ((IntKind.i64.wrap x_1) < 248)) (
                  .br (decide ((IntKind.i64.wrap ((IntKind.i64.wrap x_1) - 240)) < 0)) (
                    .pure (-1)) (
                    .alt (loopW (fun s => (ref01_value_L14 s.1 s.2.1 s.2.2).run) (b0, IntKind.i64.wrap ((IntKind.i64.wrap x_1) - 240), 1)) (fun l_607 =>
                      .bnd (ref01_Bytes_F l_607.2) fun c_608 =>
                      .br ((c_608.length : Int) != (l_607.1.length : Int)) (
                        .pure (-1)) (
                        .alt (loopW (fun s => (ref01_value_L23 s.1 s.2.1 s.2.2.1 s.2.2.2).run) (l_607.1, l_607.2, c_608, 0)) (fun l_609 =>
                          .pure l_609) (fun l_610 =>
                          .pure l_610))) (fun l_611 =>
                      .pure l_611))) (
                  .br (decide ((-1) < 0)) (
                    .pure (-1)) (
                    .alt (loopW (fun s => (ref01_value_L14 s.1 s.2.1 s.2.2).run) (b0, (-1), 1)) (fun l_612 =>
                      .bnd (ref01_Bytes_F l_612.2) fun c_613 =>
                      .br ((c_613.length : Int) != (l_612.1.length : Int)) (
                        .pure (-1)) (
                        .alt (loopW (fun s => (ref01_value_L23 s.1 s.2.1 s.2.2.1 s.2.2.2).run) (l_612.1, l_612.2, c_613, 0)) (fun l_614 =>
                          .pure l_614) (fun l_615 =>
                          .pure l_615))) (fun l_616 =>
                      .pure l_616)))) (
                .br (decide ((-1) < 0)) (
                  .pure (-1)) (
                  .alt (loopW (fun s => (ref01_value_L14 s.1 s.2.1 s.2.2).run) (b0, (-1), 1)) (fun l_617 =>
                    .bnd (ref01_Bytes_F l_617.2) fun c_618 =>
                    .br ((c_618.length : Int) != (l_617.1.length : Int)) (
                      .pure (-1)) (
                      .alt (loopW (fun s => (ref01_value_L23 s.1 s.2.1 s.2.2.1 s.2.2.2).run) (l_617.1, l_617.2, c_618, 0)) (fun l_619 =>
                        .pure l_619) (fun l_620 =>
                        .pure l_620))) (fun l_621 =>
                    .pure l_621)))) (
              .br (decide ((-1) < 0)) (
                .pure (-1)) (
                .alt (loopW (fun s => (ref01_value_L14 s.1 s.2.1 s.2.2).run) (b0, (-1), 1)) (fun l_622 =>
                  .bnd (ref01_Bytes_F l_622.2) fun c_623 =>
                  .br ((c_623.length : Int) != (l_622.1.length : Int)) (
                    .pure (-1)) (
                    .alt (loopW (fun s => (ref01_value_L23 s.1 s.2.1 s.2.2.1 s.2.2.2).run) (l_622.1, l_622.2, c_623, 0)) (fun l_624 =>
                      .pure l_624) (fun l_625 =>
                      .pure l_625))) (fun l_626 =>
                  .pure l_626))))) (
          .br ((b0.length : Int) == 4) (
            .br (decide ((IntKind.i64.wrap x_1) ≥ 240)) (
              .br (decide ((IntKind.i64.wrap x_1) < 248)) (
                .br (decide ((IntKind.i64.wrap ((IntKind.i64.wrap x_1) - 240)) < 0)) (
                  .pure (-1)) (
                  .alt (loopW (fun s => (ref01_value_L14 s.1 s.2.1 s.2.2).run) (b0, IntKind.i64.wrap ((IntKind.i64.wrap x_1) - 240), 1)) (fun l_627 =>
                    .bnd (ref01_Bytes_F l_627.2) fun c_628 =>
                    .br ((c_628.length : Int) != (l_627.1.length : Int)) (
                      .pure (-1)) (
                      .alt (loopW (fun s => (ref01_value_L23 s.1 s.2.1 s.2.2.1 s.2.2.2).run) (l_627.1, l_627.2, c_628, 0)) (fun l_629 =>
                        .pure l_629) (fun l_630 =>
                        .pure l_630))) (fun l_631 =>
                    .pure l_631))) (
                .br (decide ((-1) < 0)) (
                  .pure (-1)) (
                  .alt (loopW (fun s => (ref01_value_L14 s.1 s.2.1 s.2.2).run) (b0, (-1), 1)) (fun l_632 =>
                    .bnd (ref01_Bytes_F l_632.2) fun c_633 =>
                    .br ((c_633.length : Int) != (l_632.1.length : Int)) (
                      .pure (-1)) (
                      .alt (loopW (fun s => (ref01_value_L23 s.1 s.2.1 s.2.2.1 s.2.2.2).run) (l_632.1, l_632.2, c_633, 0)) (fun l_634 =>
                        .pure l_634) (fun l_635 =>
                        .pure l_635))) (fun l_636 =>
                    .pure l_636)))) (
              .br (decide ((-1) < 0)) (
                .pure (-1)) (
                .alt (loopW (fun s => (ref01_value_L14 s.1 s.2.1 s.2.2).run) (b0, (-1), 1)) (fun l_637 =>
                  .bnd (ref01_Bytes_F l_637.2) fun c_638 =>
                  .br ((c_638.length : Int) != (l_637.1.length : Int)) (
                    .pure (-1)) (
                    .alt (loopW (fun s => (ref01_value_L23 s.1 s.2.1 s.2.2.1 s.2.2.2).run) (l_637.1, l_637.2, c_638, 0)) (fun l_639 =>
                      .pure l_639) (fun l_640 =>
                      .pure l_640))) (fun l_641 =>
                  .pure l_641)))) (
            .br (decide ((-1) < 0)) (
              .pure (-1)) (
              .alt (loopW (fun s => (ref01_value_L14 s.1 s.2.1 s.2.2).run) (b0, (-1), 1)) (fun l_642 =>
                .bnd (ref01_Bytes_F l_642.2) fun c_643 =>
                .br ((c_643.length : Int) != (l_642.1.length : Int)) (
                  .pure (-1)) (
                  .alt (loopW (fun s => (ref01_value_L23 s.1 s.2.1 s.2.2.1 s.2.2.2).run) (l_642.1, l_642.2, c_643, 0)) (fun l_644 =>
                    .pure l_644) (fun l_645 =>
                    .pure l_645))) (fun l_646 =>
                .pure l_646))))))) (
    .br ((b0.length : Int) == 2) (
      .br (decide ((IntKind.i64.wrap x_1) ≥ 192)) (
        .br (decide ((IntKind.i64.wrap x_1) < 224)) (
          .br ((b0.length : Int) == 3) (
            .br (decide ((IntKind.i64.wrap x_1) ≥ 224)) (
              .br (decide ((IntKind.i64.wrap x_1) < 240)) (
                .br ((b0.length : Int) == 4) (
                  .br (decide ((IntKind.i64.wrap x_1) ≥ 240)) (
                    .br (decide ((IntKind.i64.wrap x_1) < 248)) (
                      .br (decide ((IntKind.i64.wrap ((IntKind.i64.wrap x_1) - 240)) < 0)) (
                        .pure (-1)) (
                        .alt (loopW (fun s => (ref01_value_L14 s.1 s.2.1 s.2.2).run) (b0, IntKind.i64.wrap ((IntKind.i64.wrap x_1) - 240), 1)) (fun l_647 =>
                          .bnd (ref01_Bytes_F l_647.2) fun c_648 =>
                          .br ((c_648.length : Int) != (l_647.1.length : Int)) (
                            .pure (-1)) (
                            .alt (loopW (fun s => (ref01_value_L23 s.1 s.2.1 s.2.2.1 s.2.2.2).run) (l_647.1, l_647.2, c_648, 0)) (fun l_649 =>
                              .pure l_649) (fun l_650 =>
                              .pure l_650))) (fun l_651 =>
                          .pure l_651))) (
                      .br (decide ((IntKind.i64.wrap ((IntKind.i64.wrap x_1) - 224)) < 0)) (
                        .pure (-1)) (
                        .alt (loopW (fun s => (ref01_value_L14 s.1 s.2.1 s.2.2).run) (b0, IntKind.i64.wrap ((IntKind.i64.wrap x_1) - 224), 1)) (fun l_652 =>
                          .bnd (ref01_Bytes_F l_652.2) fun c_653 =>
                          .br ((c_653.length : Int) != (l_652.1.length : Int)) (
                            .pure (-1)) (
                            .alt (loopW (fun s => (ref01_value_L23 s.1 s.2.1 s.2.2.1 s.2.2.2).run) (l_652.1, l_652.2, c_653, 0)) (fun l_654 =>
                              .pure l_654) (fun l_655 =>
                              .pure l_655))) (fun l_656 =>
                          .pure l_656)))) (
                    .br (decide ((IntKind.i64.wrap ((IntKind.i64.wrap x_1) - 224)) < 0)) (
                      .pure (-1)) (
                      .alt (loopW (fun s => (ref01_value_L14 s.1 s.2.1 s.2.2).run) (b0, IntKind.i64.wrap ((IntKind.i64.wrap x_1) - 224), 1)) (fun l_657 =>
                        .bnd (ref01_Bytes_F l_657.2) fun c_658 =>
                        .br ((c_658.length : Int) != (l_657.1.length : Int)) (
                          .pure (-1)) (
                          .alt (loopW (fun s => (ref01_value_L23 s.1 s.2.1 s.2.2.1 s.2.2.2).run) (l_657.1, l_657.2, c_658, 0)) (fun l_659 =>
                            .pure l_659) (fun l_660 =>
                            .pure l_660))) (fun l_661 =>
                        .pure l_661)))) (
                  .br (decide ((IntKind.i64.wrap ((IntKind.i64.wrap x_1) - 224)) < 0)) (
                    .pure (-1)) (
                    .alt (loopW (fun s => (ref01_value_L14 s.1 s.2.1 s.2.2).run) (b0, IntKind.i64.wrap ((IntKind.i64.wrap x_1) - 224), 1)) (fun l_662 =>
                      .bnd (ref01_Bytes_F l_662.2) fun c_663 =>
                      .br ((c_663.length : Int) != (l_662.1.length : Int)) (
                        .pure (-1)) (
                        .alt (loopW (fun s => (ref01_value_L23 s.1 s.2.1 s.2.2.1 s.2.2.2).run) (l_662.1, l_662.2, c_663, 0)) (fun l_664 =>
                          .pure l_664) (fun l_665 =>
                          .pure l_665))) (fun l_666 =>
                      .pure l_666)))) (
                .br ((b0.length : Int) == 4) (
                  .br (decide ((IntKind.i64.wrap x_1) ≥ 240)) (
                    .br (decide ((IntKind.i64.wrap x_1) < 248)) (
                      .br (decide ((IntKind.i64.wrap ((IntKind.i64.wrap x_1) - 240)) < 0)) (
                        .pure (-1)) (
                        .alt (loopW (fun s => (ref01_value_L14 s.1 s.2.1 s.2.2).run) (b0, IntKind.i64.wrap ((IntKind.i64.wrap x_1) - 240), 1)) (fun l_667 =>
                          .bnd (ref01_Bytes_F l_667.2) fun c_668 =>
                          .br ((c_668.length : Int) != (l_667.1.length : Int)) (
                            .pure (-1)) (
                            .alt (loopW (fun s => (ref01_value_L23 s.1 s.2.1 s.2.2.1 s.2.2.2).run) (l_667.1, l_667.2, c_668, 0)) (fun l_669 =>
                              .pure l_669) (fun l_670 =>
                              .pure l_670))) (fun l_671 =>
                          .pure l_671))) (
                      .br (decide ((IntKind.i64.wrap ((IntKind.i64.wrap x_1) - 192)) < 0)) (
                        .pure (-1)) (
                        .alt (loopW (fun s => (ref01_value_L14 s.1 s.2.1 s.2.2).run) (b0, IntKind.i64.wrap ((IntKind.i64.wrap x_1) - 192), 1)) (fun l_672 =>
                          .bnd (ref01_Bytes_F l_672.2) fun c_673 =>
                          .br ((c_673.length : Int) != (l_672.1.length : Int)) (
                            .pure (-1)) (
                            .alt (loopW (fun s => (ref01_value_L23 s.1 s.2.1 s.2.2.1 s.2.2.2).run) (l_672.1, l_672.2, c_673, 0)) (fun l_674 =>
                              .pure l_674) (fun l_675 =>
                              .pure l_675))) (fun l_676 =>
                          .pure l_676)))) (
                    .br (decide ((IntKind.i64.wrap ((IntKind.i64.wrap x_1) - 192)) < 0)) (
                      .pure (-1)) (
                      .alt (loopW (fun s => (ref01_value_L14 s.1 s.2.1 s.2.2).run) (b0, IntKind.i64.wrap ((IntKind.i64.wrap x_1) - 192), 1)) (fun l_677 =>
                        .bnd (ref01_Bytes_F l_677.2) fun c_678 =>
                        .br ((c_678.length : Int) != (l_677.1.length : Int)) (
                          .pure (-1)) (
                          .alt (loopW (fun s => (ref01_value_L23 s.1 s.2.1 s.2.2.1 s.2.2.2).run) (l_677.1, l_677.2, c_678, 0)) (fun l_679 =>
                            .pure l_679) (fun l_680 =>
                            .pure l_680))) (fun l_681 =>
                        .pure l_681)))) (
                  .br (decide ((IntKind.i64.wrap ((IntKind.i64.wrap x_1) - 192)) < 0)) (
                    .pure (-1)) (
                    .alt (loopW (fun s => (ref01_value_L14 s.1 s.2.1 s.2.2).run) (b0, IntKind.i64.wrap ((IntKind.i64.wrap x_1) - 192), 1)) (fun l_682 =>
                      .bnd (ref01_Bytes_F l_682.2) fun c_683 =>
                      .br ((c_683.length : Int) != (l_682.1.length : Int)) (
                        .pure (-1)) (
                        .alt (loopW (fun s => (ref01_value_L23 s.1 s.2.1 s.2.2.1 s.2.2.2).run) (l_682.1, l_682.2, c_683, 0)) (fun l_684 =>
                          .pure l_684) (fun l_685 =>
                          .pure l_685))) (fun l_686 =>
                      .pure l_686))))) (
              .br ((b0.length : Int) == 4) (
                .br (decide ((IntKind.i64.wrap x_1) ≥ 240)) (
                  .br (decide ((IntKind.i64.wrap x_1) < 248)) (
                    .br (decide ((IntKind.i64.wrap ((IntKind.i64.wrap x_1) - 240)) < 0)) (
                      .pure (-1)) (
                      .alt (loopW (fun s => (ref01_value_L14 s.1 s.2.1 s.2.2).run) (b0, IntKind.i64.wrap ((IntKind.i64.wrap x_1) - 240), 1)) (fun l_687 =>
                        .bnd (ref01_Bytes_F l_687.2) fun c_688 =>
                        .br ((c_688.length : Int) != (l_687.1.length : Int)) (
                          .pure (-1)) (
                          .alt (loopW (fun s => (ref01_value_L23 s.1 s.2.1 s.2.2.1 s.2.2.2).run) (l_687.1, l_687.2, c_688, 0)) (fun l_689 =>
                            .pure l_689) (fun l_690 =>
                            .pure l_690))) (fun l_691 =>
                        .pure l_691))) (
                    .br (decide ((IntKind.i64.wrap ((IntKind.i64.wrap x_1) - 192)) < 0)) (
                      .pure (-1)) (
                      .alt (loopW (fun s => (ref01_value_L14 s.1 s.2.1 s.2.2).run) (b0, IntKind.i64.wrap ((IntKind.i64.wrap x_1) - 192), 1)) (fun l_692 =>
                        .bnd (ref01_Bytes_F l_692.2) fun c_693 =>
                        .br ((c_693.length : Int) != (l_692.1.length : Int)) (
                          .pure (-1)) (
                          .alt (loopW (fun s => (ref01_value_L23 s.1 s.2.1 s.2.2.1 s.2.2.2).run) (l_692.1, l_692.2, c_693, 0)) (fun l_694 =>
                            .pure l_694) (fun l_695 =>
                            .pure l_695))) (fun l_696 =>
                        .pure l_696)))) (
                  .br (decide ((IntKind.i64.wrap ((IntKind.i64.wrap x_1) - 192)) < 0)) (
                    .pure (-1)) (
                    .alt (loopW (fun s => (ref01_value_L14 s.1 s.2.1 s.2.2).run) (b0, IntKind.i64.wrap ((IntKind.i64.wrap x_1) - 192), 1)) (fun l_697 =>
                      .bnd (ref01_Bytes_F l_697.2) fun c_698 =>
                      .br ((c_698.length : Int) != (l_697.1.length : Int)) (
                        .pure (-1)) (
                        .alt (loopW (fun s => (ref01_value_L23 s.1 s.2.1 s.2.2.1 s.2.2.2).run) (l_697.1, l_697.2, c_698, 0)) (fun l_699 =>
                          .pure l_699) (fun l_700 =>
                          .pure l_700))) (fun l_701 =>
                      .pure l_701)))) (
                .br (decide ((IntKind.i64.wrap ((IntKind.i64.wrap x_1) - 192)) < 0)) (
                  .pure (-1)) (
                  .alt (loopW (fun s => (ref01_value_L14 s.1 s.2.1 s.2.2).run) (b0, IntKind.i64.wrap ((IntKind.i64.wrap x_1) - 192), 1)) (fun l_702 =>
                    .bnd (ref01_Bytes_F l_702.2) fun c_703 =>
                    .br ((c_703.length : Int) != (l_702.1.length : Int)) (
                      .pure (-1)) (
                      .alt (loopW (fun s => (ref01_value_L23 s.1 s.2.1 s.2.2.1 s.2.2.2).run) (l_702.1, l_702.2, c_703, 0)) (fun l_704 =>
                        .pure l_704) (fun l_705 =>
                        .pure l_705))) (fun l_706 =>
                    .pure l_706))))) (
            .br ((b0.length : Int) == 4) (
              .br (decide ((IntKind.i64.wrap x_1) ≥ 240)) (
                .br (decide ((IntKind.i64.wrap x_1) < 248)) (
                  .br (decide ((IntKind.i64.wrap ((IntKind.i64.wrap x_1) - 240)) < 0)) (
                    .pure (-1)) (
                    .alt (loopW (fun s => (ref01_value_L14 s.1 s.2.1 s.2.2).run) (b0, IntKind.i64.wrap ((IntKind.i64.wrap x_1) - 240), 1)) (fun l_707 =>
                      .bnd (ref01_Bytes_F l_707.2) fun c_708 =>
                      .br ((c_708.length : Int) != (l_707.1.length : Int)) (
                        .pure (-1)) (
                        .alt (loopW (fun s => (ref01_value_L23 s.1 s.2.1 s.2.2.1 s.2.2.2).run) (l_707.1, l_707.2, c_708, 0)) (fun l_709 =>
                          .pure l_709) (fun l_710 =>
                          .pure l_710))) (fun l_711 =>
                      .pure l_711))) (
                  .br (decide ((IntKind.i64.wrap ((IntKind.i64.wrap x_1) - 192)) < 0)) (
                    .pure (-1)) (
                    .alt (loopW (fun s => (ref01_value_L14 s.1 s.2.1 s.2.2).run) (b0, IntKind.i64.wrap ((IntKind.i64.wrap x_1) - 192), 1)) (fun l_712 =>
                      .bnd (ref01_Bytes_F l_712.2) fun c_713 =>
                      .br ((c_713.length : Int) != (l_712.1.length : Int)) (
                        .pure (-1)) (
                        .alt (loopW (fun s => (ref01_value_L23 s.1 s.2.1 s.2.2.1 s.2.2.2).run) (l_712.1, l_712.2, c_713, 0)) (fun l_714 =>
                          .pure l_714) (fun l_715 =>
                          .pure l_715))) (fun l_716 =>
                      .pure l_716)))) (
                .br (decide ((IntKind.i64.wrap ((IntKind.i64.wrap x_1) - 192)) < 0)) (
                  .pure (-1)) (
                  .alt (loopW (fun s => (ref01_value_L14 s.1 s.2.1 s.2.2).run) (b0, IntKind.i64.wrap ((IntKind.i64.wrap x_1) - 192), 1)) (fun l_717 =>
                    .bnd (ref01_Bytes_F l_717.2) fun c_718 =>
                    .br ((c_718.length : Int) != (l_717.1.length : Int)) (
                      .pure (-1)) (
                      .alt (loopW (fun s => (ref01_value_L23 s.1 s.2.1 s.2.2.1 s.2.2.2).run) (l_717.1, l_717.2, c_718, 0)) (fun l_719 =>
                        .pure l_719) (fun l_720 =>
                        .pure l_720))) (fun l_721 =>
                    .pure l_721)))) (
              .br (decide ((IntKind.i64.wrap ((IntKind.i64.wrap x_1) - 192)) < 0)) (
                .pure (-1)) (
                .alt (loopW (fun s => (ref01_value_L14 s.1 s.2.1 s.2.2).run) (b0, IntKind.i64.wrap ((IntKind.i64.wrap x_1) - 192), 1)) (fun l_722 =>
                  .bnd (ref01_Bytes_F l_722.2) fun c_723 =>
                  .br ((c_723.length : Int) != (l_722.1.length : Int)) (
                    .pure (-1)) (
                    .alt (loopW (fun s => (ref01_value_L23 s.1 s.2.1 s.2.2.1 s.2.2.2).run) (l_722.1, l_722.2, c_723, 0)) (fun l_724 =>
                      .pure l_724) (fun l_725 =>
                      .pure l_725))) (fun l_726 =>
                  .pure l_726))))) (
          .br ((b0.length : Int) == 3) (
            .br (decide ((IntKind.i64.wrap x_1) ≥ 224)) (
              .br (decide ((IntKind.i64.wrap x_1) < 240)) (
                .br ((b0.length : Int) == 4) (
                  .br (decide ((IntKind.i64.wrap x_1) ≥ 240)) (
                    .br (decide ((IntKind.i64.wrap x_1) < 248)) (
                      .br (decide ((IntKind.i64.wrap ((IntKind.i64.wrap x_1) - 240)) < 0)) (
                        .pure (-1)) (
                        .alt (loopW (fun s => (ref01_value_L14 s.1 s.2.1 s.2.2).run) (b0, IntKind.i64.wrap ((IntKind.i64.wrap x_1) - 240), 1)) (fun l_727 =>
                          .bnd (ref01_Bytes_F l_727.2) fun c_728 =>
                          .br ((c_728.length : Int) != (l_727.1.length : Int)) (
                            .pure (-1)) (
                            .alt (loopW (fun s => (ref01_value_L23 s.1 s.2.1 s.2.2.1 s.2.2.2).run) (l_727.1, l_727.2, c_728, 0)) (fun l_729 =>
                              .pure l_729) (fun l_730 =>
                              .pure l_730))) (fun l_731 =>
                          .pure l_731))) (
                      .br (decide ((IntKind.i64.wrap ((IntKind.i64.wrap x_1) - 224)) < 0)) (
                        .pure (-1)) (
                        .alt (loopW (fun s => (ref01_value_L14 s.1 s.2.1 s.2.2).run) (b0, IntKind.i64.wrap ((IntKind.i64.wrap x_1) - 224), 1)) (fun l_732 =>
                          .bnd (ref01_Bytes_F l_732.2) fun c_733 =>
                          .br ((c_733.length : Int) != (l_732.1.length : Int)) (
                            .pure (-1)) (
                            .alt (loopW (fun s => (ref01_value_L23 s.1 s.2.1 s.2.2.1 s.2.2.2).run) (l_732.1, l_732.2, c_733, 0)) (fun l_734 =>
                              .pure l_734) (fun l_735 =>
                              .pure l_735))) (fun l_736 =>
                          .pure l_736)))) (
                    .br (decide ((IntKind.i64.wrap ((IntKind.i64.wrap x_1) - 224)) < 0)) (
                      .pure (-1)) (
                      .alt (loopW (fun s => (ref01_value_L14 s.1 s.2.1 s.2.2).run) (b0, IntKind.i64.wrap ((IntKind.i64.wrap x_1) - 224), 1)) (fun l_737 =>
                        .bnd (ref01_Bytes_F l_737.2) fun c_738 =>
                        .br ((c_738.length : Int) != (l_737.1.length : Int)) (
                          .pure (-1)) (
                          .alt (loopW (fun s => (ref01_value_L23 s.1 s.2.1 s.2.2.1 s.2.2.2).run) (l_737.1, l_737.2, c_738, 0)) (fun l_739 =>
                            .pure l_739) (fun l_740 =>
                            .pure l_740))) (fun l_741 =>
                        .pure l_741)))) (
                  .br (decide ((IntKind.i64.wrap ((IntKind.i64.wrap x_1) - 224)) < 0)) (
                    .pure (-1)) (
                    .alt (loopW (fun s => (ref01_value_L14 s.1 s.2.1 s.2.2).run) (b0, IntKind.i64.wrap ((IntKind.i64.wrap x_1) - 224), 1)) (fun l_742 =>
                      .bnd (ref01_Bytes_F l_742.2) fun c_743 =>
                      .br ((c_743.length : Int) != (l_742.1.length : Int)) (
                        .pure (-1)) (
                        .alt (loopW (fun s => (ref01_value_L23 s.1 s.2.1 s.2.2.1 s.2.2.2).run) (l_742.1, l_742.2, c_743, 0)) (fun l_744 =>
                          .pure l_744) (fun l_745 =>
                          .pure l_745))) (fun l_746 =>
                      .pure l_746)))) (
                .br ((b0.length : Int) == 4) (
                  .br (decide ((IntKind.i64.wrap x_1) ≥ 240)) (
                    .br (decide ((IntKind.i64.wrap x_1) < 248)) (
                      .br (decide ((IntKind.i64.wrap ((IntKind.i64.wrap x_1) - 240)) < 0)) (
                        .pure (-1)) (
                        .alt (loopW (fun s => (ref01_value_L14 s.1 s.2.1 s.2.2).run) (b0, IntKind.i64.wrap ((IntKind.i64.wrap x_1) - 240), 1)) (fun l_747 =>
                          .bnd (ref01_Bytes_F l_747.2) fun c_748 =>
                          .br ((c_748.length : Int) != (l_747.1.length : Int)) (
                            .pure (-1)) (
                            .alt (loopW (fun s => (ref01_value_L23 s.1 s.2.1 s.2.2.1 s.2.2.2).run) (l_747.1, l_747.2, c_748, 0)) (fun l_749 =>
                              .pure l_749) (fun l_750 =>
                              .pure l_750))) (fun l_751 =>
                          .pure l_751))) (
                      .br (decide ((-1) < 0)) (
                        .pure (-1)) (
                        .alt (loopW (fun s => (ref01_value_L14 s.1 s.2.1 s.2.2).run) (b0, (-1), 1)) (fun l_752 =>
                          .bnd (ref01_Bytes_F l_752.2) fun c_753 =>
                          .br ((c_753.length : Int) != (l_752.1.length : Int)) (
                            .pure (-1)) (
                            .alt (loopW (fun s => (ref01_value_L23 s.1 s.2.1 s.2.2.1 s.2.2.2).run) (l_752.1, l_752.2, c_753, 0)) (fun l_754 =>
                              .pure l_754) (fun l_755 =>
                              .pure l_755))) (fun l_756 =>
                          .pure l_756)))) (
                    .br (decide ((-1) < 0)) (
                      .pure (-1)) (
                      .alt (loopW (fun s => (ref01_value_L14 s.1 s.2.1 s.2.2).run) (b0, (-1), 1)) (fun l_757 =>
                        .bnd (ref01_Bytes_F l_757.2) fun c_758 =>
                        .br ((c_758.length : Int) != (l_757.1.length : Int)) (
                          .pure (-1)) (
                          .alt (loopW (fun s => (ref01_value_L23 s.1 s.2.1 s.2.2.1 s.2.2.2).run) (l_757.1, l_757.2, c_758, 0)) (fun l_759 =>
                            .pure l_759) (fun l_760 =>
                            .pure l_760))) (fun l_761 =>
                        .pure l_761)))) (
                  .br (decide ((-1) < 0)) (
                    .pure (-1)) (
                    .alt (loopW (fun s => (ref01_value_L14 s.1 s.2.1 s.2.2).run) (b0, (-1), 1)) (fun l_762 =>
                      .bnd (ref01_Bytes_F l_762.2) fun c_763 =>
                      .br ((c_763.length : Int) != (l_762.1.length : Int)) (
                        .pure (-1)) (
                        .alt (loopW (fun s => (ref01_value_L23 s.1 s.2.1 s.2.2.1 s.2.2.2).run) (l_762.1, l_762.2, c_763, 0)) (fun l_764 =>
                          .pure l_764) (fun l_765 =>
                          .pure l_765))) (fun l_766 =>
                      .pure l_766))))) (
              .br ((b0.length : Int) == 4) (
                .br (decide ((IntKind.i64.wrap x_1) ≥ 240)) (
                  .br (decide ((IntKind.i64.wrap x_1) < 248)) (
                    .br (decide ((IntKind.i64.wrap ((IntKind.i64.wrap x_1) - 240)) < 0)) (
                      .pure (-1)) (
                      .alt (loopW (fun s => (ref01_value_L14 s.1 s.2.1 s.2.2).run) (b0, IntKind.i64.wrap ((IntKind.i64.wrap x_1) - 240), 1)) (fun l_767 =>
                        .bnd (ref01_Bytes_F l_767.2) fun c_768 =>
                        .br ((c_768.length : Int) != (l_767.1.length : Int)) (
                          .pure (-1)) (
                          .alt (loopW (fun s => (ref01_value_L23 s.1 s.2.1 s.2.2.1 s.2.2.2).run) (l_767.1, l_767.2, c_768, 0)) (fun l_769 =>
                            .pure l_769) (fun l_770 =>
                            .pure l_770))) (fun l_771 =>
                        .pure l_771))) (
                    .br (decide ((-1) < 0)) (
                      .pure (-1)) (
                      .alt (loopW (fun s => (ref01_value_L14 s.1 s.2.1 s.2.2).run) (b0, (-1), 1)) (fun l_772 =>
                        .bnd (ref01_Bytes_F l_772.2) fun c_773 =>
                        .br ((c_773.length : Int) != (l_772.1.length : Int)) (
                          .pure (-1)) (
                          .alt (loopW (fun s => (ref01_value_L23 s.1 s.2.1 s.2.2.1 s.2.2.2).run) (l_772.1, l_772.2, c_773, 0)) (fun l_774 =>
                            .pure l_774) (fun l_775 =>
                            .pure l_775))) (fun l_776 =>
                        .pure l_776)))) (
                  .br (decide ((-1) < 0)) (
                    .pure (-1)) (
                    .alt (loopW (fun s => (ref01_value_L14 s.1 s.2.1 s.2.2).run) (b0, (-1), 1)) (fun l_777 =>
                      .bnd (ref01_Bytes_F l_777.2) fun c_778 =>
                      .br ((c_778.length : Int) != (l_777.1.length : Int)) (
                        .pure (-1)) (
                        .alt (loopW (fun s => (ref01_value_L23 s.1 s.2.1 s.2.2.1 s.2.2.2).run) (l_777.1, l_777.2, c_778, 0)) (fun l_779 =>
                          .pure l_779) (fun l_780 =>
                          .pure l_780))) (fun l_781 =>
                      .pure l_781)))) (
                .br (decide ((-1) < 0)) (
                  .pure (-1)) (
                  .alt (loopW (fun s => (ref01_value_L14 s.1 s.2.1 s.2.2).run) (b0, (-1), 1)) (fun l_782 =>
                    .bnd (ref01_Bytes_F l_782.2) fun c_783 =>
                    .br ((c_783.length : Int) != (l_782.1.length : Int)) (
                      .pure (-1)) (
                      .alt (loopW (fun s => (ref01_value_L23 s.1 s.2.1 s.2.2.1 s.2.2.2).run) (l_782.1, l_782.2, c_783, 0)) (fun l_784 =>
                        .pure l_784) (fun l_785 =>
                        .pure l_785))) (fun l_786 =>
                    .pure l_786))))) (
            .br ((b0.length : Int) == 4) (
              .br (decide ((IntKind.i64.wrap x_1) ≥ 240)) (
                .br (decide ((IntKind.i64.wrap x_1) < 248)) (
                  .br (decide ((IntKind.i64.wrap ((IntKind.i64.wrap x_1) - 240)) < 0)) (
                    .pure (-1)) (
                    .alt (loopW (fun s => (ref01_value_L14 s.1 s.2.1 s.2.2).run) (b0, IntKind.i64.wrap ((IntKind.i64.wrap x_1) - 240), 1)) (fun l_787 =>
                      .bnd (ref01_Bytes_F l_787.2) fun c_788 =>
                      .br ((c_788.length : Int) != (l_787.1.length : Int)) (
                        .pure (-1)) (
                        .alt (loopW (fun s => (ref01_value_L23 s.1 s.2.1 s.2.2.1 s.2.2.2).run) (l_787.1, l_787.2, c_788, 0)) (fun l_789 =>
                          .pure l_789) (fun l_790 =>
                          .pure l_790))) (fun l_791 =>
                      .pure l_791))) (
                  .br (decide ((-1) < 0)) (
                    .pure (-1)) (
                    .alt (loopW (fun s => (ref01_value_L14 s.1 s.2.1 s.2.2).run) (b0, (-1), 1)) (fun l_792 =>
                      .bnd (ref01_Bytes_F l_792.2) fun c_793 =>
                      .br ((c_793.length : Int) != (l_792.1.length : Int)) (
                        .pure (-1)) (
                        .alt (loopW (fun s => (ref01_value_L23 s.1 s.2.1 s.2.2.1 s.2.2.2).run) (l_792.1, l_792.2, c_793, 0)) (fun l_794 =>
                          .pure l_794) (fun l_795 =>
                          .pure l_795))) (fun l_796 =>
                      .pure l_796)))) (
                .br (decide ((-1) < 0)) (
                  .pure (-1)) (
                  .alt (loopW (fun s => (ref01_value_L14 s.1 s.2.1 s.2.2).run) (b0, (-1), 1)) (fun l_797 =>
                    .bnd (ref01_Bytes_F l_797.2) fun c_798 =>
                    .br ((c_798.length : Int) != (l_797.1.length : Int)) (
                      .pure (-1)) (
                      .alt (loopW (fun s => (ref01_value_L23 s.1 s.2.1 s.2.2.1 s.2.2.2).run) (l_797.1, l_797.2, c_798, 0)) (fun l_799 =>
                        .pure l_799) (fun l_800 =>
                        .pure l_800))) (fun l_801 =>
                    .pure l_801)))) (
              .br (decide ((-1) < 0)) (
                .pure (-1)) (
                .alt (loopW (fun s => (ref01_value_L14 s.1 s.2.1 s.2.2).run) (b0, (-1), 1)) (fun l_802 =>
                  .bnd (ref01_Bytes_F l_802.2) fun c_803 =>
                  .br ((c_803.length : Int) != (l_802.1.length : Int)) (
                    .pure (-1)) (
                    .alt (loopW (fun s => (ref01_value_L23 s.1 s.2.1 s.2.2.1 s.2.2.2).run) (l_802.1, l_802.2, c_803, 0)) (fun l_804 =>
                      .pure l_804) (fun l_805 =>
                      .pure l_805))) (fun l_806 =>
                  .pure l_806)))))) (
        .br ((b0.length : Int) == 3) (
          .br (decide ((IntKind.i64.wrap x_1) ≥ 224)) (
            .br (decide ((IntKind.i64.wrap x_1) < 240)) (
              .br ((b0.length : Int) == 4) (
                .br (decide ((IntKind.i64.wrap x_1) ≥ 240)) (
                  .br (decide ((IntKind.i64.wrap x_1) < 248)) (
                    .br (decide ((IntKind.i64.wrap ((IntKind.i64.wrap x_1) - 240)) < 0)) (
                      .pure (-1)) (
                      .alt (loopW (fun s => (ref01_value_L14 s.1 s.2.1 s.2.2).run) (b0, IntKind.i64.wrap ((IntKind.i64.wrap x_1) - 240), 1)) (fun l_807 =>
                        .bnd (ref01_Bytes_F l_807.2) fun c_808 =>
                        .br ((c_808.length : Int) != (l_807.1.length : Int)) (
                          .pure (-1)) (
                          .alt (loopW (fun s => (ref01_value_L23 s.1 s.2.1 s.2.2.1 s.2.2.2).run) (l_807.1, l_807.2, c_808, 0)) (fun l_809 =>
                            .pure l_809) (fun l_810 =>
                            .pure l_810))) (fun l_811 =>
                        .pure l_811))) (
                    .br (decide ((IntKind.i64.wrap ((IntKind.i64.wrap x_1) - 224)) < 0)) (
                      .pure (-1)) (
                      .alt (loopW (fun s => (ref01_value_L14 s.1 s.2.1 s.2.2).run) (b0, IntKind.i64.wrap ((IntKind.i64.wrap x_1) - 224), 1)) (fun l_812 =>
                        .bnd (ref01_Bytes_F l_812.2) fun c_813 =>
                        .br ((c_813.length : Int) != (l_812.1.length : Int)) (
                          .pure (-1)) (
                          .alt (loopW (fun s => (ref01_value_L23 s.1 s.2.1 s.2.2.1 s.2.2.2).run) (l_812.1, l_812.2, c_813, 0)) (fun l_814 =>
                            .pure l_814) (fun l_815 =>
                            .pure l_815))) (fun l_816 =>
                        .pure l_816)))) (
                  .br (decide ((IntKind.i64.wrap ((IntKind.i64.wrap x_1) - 224)) < 0)) (
                    .pure (-1)) (
                    .alt (loopW (fun s => (ref01_value_L14 s.1 s.2.1 s.2.2).run) (b0, IntKind.i64.wrap ((IntKind.i64.wrap x_1) - 224), 1)) (fun l_817 =>
                      .bnd (ref01_Bytes_F l_817.2) fun c_818 =>
                      .br ((c_818.length : Int) != (l_817.1.length : Int)) (
                        .pure (-1)) (
                        .alt (loopW (fun s => (ref01_value_L23 s.1 s.2.1 s.2.2.1 s.2.2.2).run) (l_817.1, l_817.2, c_818, 0)) (fun l_819 =>
                          .pure l_819) (fun l_820 =>
                          .pure l_820))) (fun l_821 =>
                      .pure l_821)))) (
                .br (decide ((IntKind.i64.wrap ((IntKind.i64.wrap x_1) - 224)) < 0)) (
                  .pure (-1)) (
                  .alt (loopW (fun s => (ref01_value_L14 s.1 s.2.1 s.2.2).run) (b0, IntKind.i64.wrap ((IntKind.i64.wrap x_1) - 224), 1)) (fun l_822 =>
                    .bnd (ref01_Bytes_F l_822.2) fun c_823 =>
                    .br ((c_823.length : Int) != (l_822.1.length : Int)) (
                      .pure (-1)) (
                      .alt (loopW (fun s => (ref01_value_L23 s.1 s.2.1 s.2.2.1 s.2.2.2).run) (l_822.1, l_822.2, c_823, 0)) (fun l_824 =>
                        .pure l_824) (fun l_825 =>
                        .pure l_825))) (fun l_826 =>
                    .pure l_826)))) (
              .br ((b0.length : Int) == 4) (
                .br (decide ((IntKind.i64.wrap x_1) ≥ 240)) (
                  .br (decide ((IntKind.i64.wrap x_1) < 248)) (
                    .br (decide ((IntKind.i64.wrap ((IntKind.i64.wrap x_1) - 240)) < 0)) (
                      .pure (-1)) (
                      .alt (loopW (fun s => (ref01_value_L14 s.1 s.2.1 s.2.2).run) (b0, IntKind.i64.wrap ((IntKind.i64.wrap x_1) - 240), 1)) (fun l_827 =>
                        .bnd (ref01_Bytes_F l_827.2) fun c_828 =>
                        .br ((c_828.length : Int) != (l_827.1.length : Int)) (
                          .pure (-1)) (
                          .alt (loopW (fun s => (ref01_value_L23 s.1 s.2.1 s.2.2.1 s.2.2.2).run) (l_827.1, l_827.2, c_828, 0)) (fun l_829 =>
                            .pure l_829) (fun l_830 =>
                            .pure l_830))) (fun l_831 =>
                        .pure l_831))) (
                    .br (decide ((-1) < 0)) (
                      .pure (-1)) (
                      .alt (loopW (fun s => (ref01_value_L14 s.1 s.2.1 s.2.2).run) (b0, (-1), 1)) (fun l_832 =>
                        .bnd (ref01_Bytes_F l_832.2) fun c_833 =>
                        .br ((c_833.length : Int) != (l_832.1.length : Int)) (
                          .pure (-1)) (
                          .alt (loopW (fun s => (ref01_value_L23 s.1 s.2.1 s.2.2.1 s.2.2.2).run) (l_832.1, l_832.2, c_833, 0)) (fun l_834 =>
                            .pure l_834) (fun l_835 =>
                            .pure l_835))) (fun l_836 =>
                        .pure l_836)))) (
                  .br (decide ((-1) < 0)) (
                    .pure (-1)) (
                    .alt (loopW (fun s => (ref01_value_L14 s.1 s.2.1 s.2.2).run) (b0, (-1), 1)) (fun l_837 =>
                      .bnd (ref01_Bytes_F l_837.2) fun c_838 =>
                      .br ((c_838.length : Int) != (l_837.1.length : Int)) (
                        .pure (-1)) (
                        .alt (loopW (fun s => (ref01_value_L23 s.1 s.2.1 s.2.2.1 s.2.2.2).run) (l_837.1, l_837.2, c_838, 0)) (fun l_839 =>
                          .pure l_839) (fun l_840 =>
                          .pure l_840))) (fun l_841 =>
                      .pure l_841)))) (
                .br (decide ((-1) < 0)) (
                  .pure (-1)) (
                  .alt (loopW (fun s => (ref01_value_L14 s.1 s.2.1 s.2.2).run) (b0, (-1), 1)) (fun l_842 =>
                    .bnd (ref01_Bytes_F l_842.2) fun c_843 =>
                    .br ((c_843.length : Int) != (l_842.1.length : Int)) (
                      .pure (-1)) (
                      .alt (loopW (fun s => (ref01_value_L23 s.1 s.2.1 s.2.2.1 s.2.2.2).run) (l_842.1, l_842.2, c_843, 0)) (fun l_844 =>
                        .pure l_844) (fun l_845 =>
                        .pure l_845))) (fun l_846 =>
                    .pure l_846))))) (
            .br ((b0.length : Int) == 4) (
              .br (decide ((IntKind.i64.wrap x_1) ≥ 240)) (
                .br (decide ((IntKind.i64.wrap x_1) < 248)) (
                  .br (decide ((IntKind.i64.wrap ((IntKind.i64.wrap x_1) - 240)) < 0)) (
                    .pure (-1)) (
                    .alt (loopW (fun s => (ref01_value_L14 s.1 s.2.1 s.2.2).run) (b0, IntKind.i64.wrap ((IntKind.i64.wrap x_1) - 240), 1)) (fun l_847 =>
                      .bnd (ref01_Bytes_F l_847.2) fun c_848 =>
                      .br ((c_848.length : Int) != (l_847.1.length : Int)) (
                        .pure (-1)) (
                        .alt (loopW (fun s => (ref01_value_L23 s.1 s.2.1 s.2.2.1 s.2.2.2).run) (l_847.1, l_847.2, c_848, 0)) (fun l_849 =>
                          .pure l_849) (fun l_850 =>
                          .pure l_850))) (fun l_851 =>
                      .pure l_851))) (
                  .br (decide ((-1) < 0)) (
                    .pure (-1)) (
                    .alt (loopW (fun s => (ref01_value_L14 s.1 s.2.1 s.2.2).run) (b0, (-1), 1)) (fun l_852 =>
                      .bnd (ref01_Bytes_F l_852.2) fun c_853 =>
                      .br ((c_853.length : Int) != (l_852.1.length : Int)) (
                        .pure (-1)) (
                        .alt (loopW (fun s => (ref01_value_L23 s.1 s.2.1 s.2.2.1 s.2.2.2).run) (l_852.1, l_852.2, c_853, 0)) (fun l_854 =>
                          .pure l_854) (fun l_855 =>
                          .pure l_855))) (fun l_856 =>
                      .pure l_856)))) (
                .br (decide ((-1) < 0)) (
                  .pure (-1)) (
                  .alt (loopW (fun s => (ref01_value_L14 s.1 s.2.1 s.2.2).run) (b0, (-1), 1)) (fun l_857 =>
                    .bnd (ref01_Bytes_F l_857.2) fun c_858 =>
                    .br ((c_858.length : Int) != (l_857.1.length : Int)) (
                      .pure (-1)) (
                      .alt (loopW (fun s => (ref01_value_L23 s.1 s.2.1 s.2.2.1 s.2.2.2).run) (l_857.1, l_857.2, c_858, 0)) (fun l_859 =>
                        .pure l_859) (fun l_860 =>
                        .pure l_860))) (fun l_861 =>
                    .pure l_861)))) (
              .br (decide ((-1) < 0)) (
                .pure (-1)) (
                .alt (loopW (fun s => (ref01_value_L14 s.1 s.2.1 s.2.2).run) (b0, (-1), 1)) (fun l_862 =>
                  .bnd (ref01_Bytes_F l_862.2) fun c_863 =>
                  .br ((c_863.length : Int) != (l_862.1.length : Int)) (
                    .pure (-1)) (
                    .alt (loopW (fun s => (ref01_value_L23 s.1 s.2.1 s.2.2.1 s.2.2.2).run) (l_862.1, l_862.2, c_863, 0)) (fun l_864 =>
                      .pure l_864) (fun l_865 =>
                      .pure l_865))) (fun l_866 =>
                  .pure l_866))))) (
          .br ((b0.length : Int) == 4) (
            .br (decide ((IntKind.i64.wrap x_1) ≥ 240)) (
              .br (decide ((IntKind.i64.wrap x_1) < 248)) (
                .br (decide ((IntKind.i64.wrap ((IntKind.i64.wrap x_1) - 240)) < 0)) (
                  .pure (-1)) (
                  .alt (loopW (fun s => (ref01_value_L14 s.1 s.2.1 s.2.2).run) (b0, IntKind.i64.wrap ((IntKind.i64.wrap x_1) - 240), 1)) (fun l_867 =>
                    .bnd (ref01_Bytes_F l_867.2) fun c_868 =>
                    .br ((c_868.length : Int) != (l_867.1.length : Int)) (
                      .pure (-1)) (
                      .alt (loopW (fun s => (ref01_value_L23 s.1 s.2.1 s.2.2.1 s.2.2.2).run) (l_867.1, l_867.2, c_868, 0)) (fun l_869 =>
                        .pure l_869) (fun l_870 =>
                        .pure l_870))) (fun l_871 =>
                    .pure l_871))) (
                .br (decide ((-1) < 0)) (
                  .pure (-1)) (
                  .alt (loopW (fun s => (ref01_value_L14 s.1 s.2.1 s.2.2).run) (b0, (-1), 1)) (fun l_872 =>
                    .bnd (ref01_Bytes_F l_872.2) fun c_873 =>
                    .br ((c_873.length : Int) != (l_872.1.length : Int)) (
                      .pure (-1)) (
                      .alt (loopW (fun s => (ref01_value_L23 s.1 s.2.1 s.2.2.1 s.2.2.2).run) (l_872.1, l_872.2, c_873, 0)) (fun l_874 =>
                        .pure l_874) (fun l_875 =>
                        .pure l_875))) (fun l_876 =>
                    .pure l_876)))) (
              .br (decide ((-1) < 0)) (
                .pure (-1)) (
                .alt (loopW (fun s => (ref01_value_L14 s.1 s.2.1 s.2.2).run) (b0, (-1), 1)) (fun l_877 =>
                  .bnd (ref01_Bytes_F l_877.2) fun c_878 =>
                  .br ((c_878.length : Int) != (l_877.1.length : Int)) (
                    .pure (-1)) (
                    .alt (loopW (fun s => (ref01_value_L23 s.1 s.2.1 s.2.2.1 s.2.2.2).run) (l_877.1, l_877.2, c_878, 0)) (fun l_879 =>
                      .pure l_879) (fun l_880 =>
                      .pure l_880))) (fun l_881 =>
                  .pure l_881)))) (
            .br (decide ((-1) < 0)) (
              .pure (-1)) (
              .alt (loopW (fun s => (ref01_value_L14 s.1 s.2.1 s.2.2).run) (b0, (-1), 1)) (fun l_882 =>
                .bnd (ref01_Bytes_F l_882.2) fun c_883 =>
                .br ((c_883.length : Int) != (l_882.1.length : Int)) (
                  .pure (-1)) (
                  .alt (loopW (fun s => (ref01_value_L23 s.1 s.2.1 s.2.2.1 s.2.2.2).run) (l_882.1, l_882.2, c_883, 0)) (fun l_884 =>
                    .pure l_884) (fun l_885 =>
                    .pure l_885))) (fun l_886 =>
                .pure l_886)))))) (
      .br ((b0.length : Int) == 3) (
        .br (decide ((IntKind.i64.wrap x_1) ≥ 224)) (
          .br (decide ((IntKind.i64.wrap x_1) < 240)) (
            .br ((b0.length : Int) == 4) (
              .br (decide ((IntKind.i64.wrap x_1) ≥ 240)) (
                .br (decide ((IntKind.i64.wrap x_1) < 248)) (
                  .br (decide ((IntKind.i64.wrap ((IntKind.i64.wrap x_1) - 240)) < 0)) (
                    .pure (-1)) (
                    .alt (loopW (fun s => (ref01_value_L14 s.1 s.2.1 s.2.2).run) (b0, IntKind.i64.wrap ((IntKind.i64.wrap x_1) - 240), 1)) (fun l_887 =>
                      .bnd (ref01_Bytes_F l_887.2) fun c_888 =>
                      .br ((c_888.length : Int) != (l_887.1.length : Int)) (
                        .pure (-1)) (
                        .alt (loopW (fun s => (ref01_value_L23 s.1 s.2.1 s.2.2.1 s.2.2.2).run) (l_887.1, l_887.2, c_888, 0)) (fun l_889 =>
                          .pure l_889) (fun l_890 =>
                          .pure l_890))) (fun l_891 =>
                      .pure l_891))) (
                  .br (decide ((IntKind.i64.wrap ((IntKind.i64.wrap x_1) - 224)) < 0)) (
                    .pure (-1)) (
                    .alt (loopW (fun s => (ref01_value_L14 s.1 s.2.1 s.2.2).run) (b0, IntKind.i64.wrap ((IntKind.i64.wrap x_1) - 224), 1)) (fun l_892 =>
                      .bnd (ref01_Bytes_F l_892.2) fun c_893 =>
                      .br ((c_893.length : Int) != (l_892.1.length : Int)) (
                        .pure (-1)) (
                        .alt (loopW (fun s => (ref01_value_L23 s.1 s.2.1 s.2.2.1 s.2.2.2).run) (l_892.1, l_892.2, c_893, 0)) (fun l_894 =>
                          .pure l_894) (fun l_895 =>
                          .pure l_895))) (fun l_896 =>
                      .pure l_896)))) (
                .br (decide ((IntKind.i64.wrap ((IntKind.i64.wrap x_1) - 224)) < 0)) (
                  .pure (-1)) (
                  .alt (loopW (fun s => (ref01_value_L14 s.1 s.2.1 s.2.2).run) (b0, IntKind.i64.wrap ((IntKind.i64.wrap x_1) - 224), 1)) (fun l_897 =>
                    .bnd (ref01_Bytes_F l_897.2) fun c_898 =>
                    .br ((c_898.length : Int) != (l_897.1.length : Int)) (
                      .pure (-1)) (
                      .alt (loopW (fun s => (ref01_value_L23 s.1 s.2.1 s.2.2.1 s.2.2.2).run) (l_897.1, l_897.2, c_898, 0)) (fun l_899 =>
                        .pure l_899) (fun l_900 =>
                        .pure l_900))) (fun l_901 =>
                    .pure l_901)))) (
              .br (decide ((IntKind.i64.wrap ((IntKind.i64.wrap x_1) - 224)) < 0)) (
                .pure (-1)) (
                .alt (loopW (fun s => (ref01_value_L14 s.1 s.2.1 s.2.2).run) (b0, IntKind.i64.wrap ((IntKind.i64.wrap x_1) - 224), 1)) (fun l_902 =>
                  .bnd (ref01_Bytes_F l_902.2) fun c_903 =>
                  .br ((c_903.length : Int) != (l_902.1.length : Int)) (
                    .pure (-1)) (
                    .alt (loopW (fun s => (ref01_value_L23 s.1 s.2.1 s.2.2.1 s.2.2.2).run) (l_902.1, l_902.2, c_903, 0)) (fun l_904 =>
                      .pure l_904) (fun l_905 =>
                      .pure l_905))) (fun l_906 =>
                  .pure l_906)))) (
            .br ((b0.length : Int) == 4) (
              .br (decide ((IntKind.i64.wrap x_1) ≥ 240)) (
                .br (decide ((IntKind.i64.wrap x_1) < 248)) (
                  .br (decide ((IntKind.i64.wrap ((IntKind.i64.wrap x_1) - 240)) < 0)) (
                    .pure (-1)) (
                    .alt (loopW (fun s => (ref01_value_L14 s.1 s.2.1 s.2.2).run) (b0, IntKind.i64.wrap ((IntKind.i64.wrap x_1) - 240), 1)) (fun l_907 =>
                      .bnd (ref01_Bytes_F l_907.2) fun c_908 =>
                      .br ((c_908.length : Int) != (l_907.1.length : Int)) (
                        .pure (-1)) (
                        .alt (loopW (fun s => (ref01_value_L23 s.1 s.2.1 s.2.2.1 s.2.2.2).run) (l_907.1, l_907.2, c_908, 0)) (fun l_909 =>
                          .pure l_909) (fun l_910 =>
                          .pure l_910))) (fun l_911 =>
                      .pure l_911))) (
                  .br (decide ((-1) < 0)) (
                    .pure (-1)) (
                    .alt (loopW (fun s => (ref01_value_L14 s.1 s.2.1 s.2.2).run) (b0, (-1), 1)) (fun l_912 =>
                      .bnd (ref01_Bytes_F l_912.2) fun c_913 =>
                      .br ((c_913.length : Int) != (l_912.1.length : Int)) (
                        .pure (-1)) (
                        .alt (loopW (fun s => (ref01_value_L23 s.1 s.2.1 s.2.2.1 s.2.2.2).run) (l_912.1, l_912.2, c_913, 0)) (fun l_914 =>
                          .pure l_914) (fun l_915 =>
                          .pure l_915))) (fun l_916 =>
                      .pure l_916)))) (
                .br (decide ((-1) < 0)) (
                  .pure (-1)) (
                  .alt (loopW (fun s => (ref01_value_L14 s.1 s.2.1 s.2.2).run) (b0, (-1), 1)) (fun l_917 =>
                    .bnd (ref01_Bytes_F l_917.2) fun c_918 =>
                    .br ((c_918.length : Int) != (l_917.1.length : Int)) (
                      .pure (-1)) (
                      .alt (loopW (fun s => (ref01_value_L23 s.1 s.2.1 s.2.2.1 s.2.2.2).run) (l_917.1, l_917.2, c_918, 0)) (fun l_919 =>
                        .pure l_919) (fun l_920 =>
                        .pure l_920))) (fun l_921 =>
                    .pure l_921)))) (
              .br (decide ((-1) < 0)) (
                .pure (-1)) (
                .alt (loopW (fun s => (ref01_value_L14 s.1 s.2.1 s.2.2).run) (b0, (-1), 1)) (fun l_922 =>
                  .bnd (ref01_Bytes_F l_922.2) fun c_923 =>
                  .br ((c_923.length : Int) != (l_922.1.length : Int)) (
                    .pure (-1)) (
                    .alt (loopW (fun s => (ref01_value_L23 s.1 s.2.1 s.2.2.1 s.2.2.2).run) (l_922.1, l_922.2, c_923, 0)) (fun l_924 =>
                      .pure l_924) (fun l_925 =>
                      .pure l_925))) (fun l_926 =>
                  .pure l_926))))) (
          .br ((b0.length : Int) == 4) (
            .br (decide ((IntKind.i64.wrap x_1) ≥ 240)) (
              .br (decide ((IntKind.i64.wrap x_1) < 248)) (
                .br (decide ((IntKind.i64.wrap ((IntKind.i64.wrap x_1) - 240)) < 0)) (
                  .pure (-1)) (
                  .alt (loopW (fun s => (ref01_value_L14 s.1 s.2.1 s.2.2).run) (b0, IntKind.i64.wrap ((IntKind.i64.wrap x_1) - 240), 1)) (fun l_927 =>
                    .bnd (ref01_Bytes_F l_927.2) fun c_928 =>
                    .br ((c_928.length : Int) != (l_927.1.length : Int)) (
                      .pure (-1)) (
                      .alt (loopW (fun s => (ref01_value_L23 s.1 s.2.1 s.2.2.1 s.2.2.2).run) (l_927.1, l_927.2, c_928, 0)) (fun l_929 =>
                        .pure l_929) (fun l_930 =>
                        .pure l_930))) (fun l_931 =>
                    .pure l_931))) (
                .br (decide ((-1) < 0)) (
                  .pure (-1)) (
                  .alt (loopW (fun s => (ref01_value_L14 s.1 s.2.1 s.2.2).run) (b0, (-1), 1)) (fun l_932 =>
                    .bnd (ref01_Bytes_F l_932.2) fun c_933 =>
                    .br ((c_933.length : Int) != (l_932.1.length : Int)) (
                      .pure (-1)) (
                      .alt (loopW (fun s => (ref01_value_L23 s.1 s.2.1 s.2.2.1 s.2.2.2).run) (l_932.1, l_932.2, c_933, 0)) (fun l_934 =>
                        .pure l_934) (fun l_935 =>
                        .pure l_935))) (fun l_936 =>
                    .pure l_936)))) (
              .br (decide ((-1) < 0)) (
                .pure (-1)) (
                .alt (loopW (fun s => (ref01_value_L14 s.1 s.2.1 s.2.2).run) (b0, (-1), 1)) (fun l_937 =>
                  .bnd (ref01_Bytes_F l_937.2) fun c_938 =>
                  .br ((c_938.length : Int) != (l_937.1.length : Int)) (
                    .pure (-1)) (
                    .alt (loopW (fun s => (ref01_value_L23 s.1 s.2.1 s.2.2.1 s.2.2.2).run) (l_937.1, l_937.2, c_938, 0)) (fun l_939 =>
                      .pure l_939) (fun l_940 =>
                      .pure l_940))) (fun l_941 =>
                  .pure l_941)))) (
            .br (decide ((-1) < 0)) (
              .pure (-1)) (
              .alt (loopW (fun s => (ref01_value_L14 s.1 s.2.1 s.2.2).run) (b0, (-1), 1)) (fun l_942 =>
                .bnd (ref01_Bytes_F l_942.2) fun c_943 =>
                .br ((c_943.length : Int) != (l_942.1.length : Int)) (
                  .pure (-1)) (
                  .alt (loopW (fun s => (ref01_value_L23 s.1 s.2.1 s.2.2.1 s.2.2.2).run) (l_942.1, l_942.2, c_943, 0)) (fun l_944 =>
                    .pure l_944) (fun l_945 =>
                    .pure l_945))) (fun l_946 =>
                .pure l_946))))) (
        .br ((b0.length : Int) == 4) (
          .br (decide ((IntKind.i64.wrap x_1) ≥ 240)) (
            .br (decide ((IntKind.i64.wrap x_1) < 248)) (
              .br (decide ((IntKind.i64.wrap ((IntKind.i64.wrap x_1) - 240)) < 0)) (
                .pure (-1)) (
                .alt (loopW (fun s => (ref01_value_L14 s.1 s.2.1 s.2.2).run) (b0, IntKind.i64.wrap ((IntKind.i64.wrap x_1) - 240), 1)) (fun l_947 =>
                  .bnd (ref01_Bytes_F l_947.2) fun c_948 =>
                  .br ((c_948.length : Int) != (l_947.1.length : Int)) (
                    .pure (-1)) (
                    .alt (loopW (fun s => (ref01_value_L23 s.1 s.2.1 s.2.2.1 s.2.2.2).run) (l_947.1, l_947.2, c_948, 0)) (fun l_949 =>
                      .pure l_949) (fun l_950 =>
                      .pure l_950))) (fun l_951 =>
                  .pure l_951))) (
              .br (decide ((-1) < 0)) (
                .pure (-1)) (
                .alt (loopW (fun s => (ref01_value_L14 s.1 s.2.1 s.2.2).run) (b0, (-1), 1)) (fun l_952 =>
                  .bnd (ref01_Bytes_F l_952.2) fun c_953 =>
                  .br ((c_953.length : Int) != (l_952.1.length : Int)) (
                    .pure (-1)) (
                    .alt (loopW (fun s => (ref01_value_L23 s.1 s.2.1 s.2.2.1 s.2.2.2).run) (l_952.1, l_952.2, c_953, 0)) (fun l_954 =>
                      .pure l_954) (fun l_955 =>
                      .pure l_955))) (fun l_956 =>
                  .pure l_956)))) (
            .br (decide ((-1) < 0)) (
              .pure (-1)) (
              .alt (loopW (fun s => (ref01_value_L14 s.1 s.2.1 s.2.2).run) (b0, (-1), 1)) (fun l_957 =>
                .bnd (ref01_Bytes_F l_957.2) fun c_958 =>
                .br ((c_958.length : Int) != (l_957.1.length : Int)) (
                  .pure (-1)) (
                  .alt (loopW (fun s => (ref01_value_L23 s.1 s.2.1 s.2.2.1 s.2.2.2).run) (l_957.1, l_957.2, c_958, 0)) (fun l_959 =>
                    .pure l_959) (fun l_960 =>
                    .pure l_960))) (fun l_961 =>
                .pure l_961)))) (
          .br (decide ((-1) < 0)) (
            .pure (-1)) (
            .alt (loopW (fun s => (ref01_value_L14 s.1 s.2.1 s.2.2).run) (b0, (-1), 1)) (fun l_962 =>
              .bnd (ref01_Bytes_F l_962.2) fun c_963 =>
              .br ((c_963.length : Int) != (l_962.1.length : Int)) (
                .pure (-1)) (
                .alt (loopW (fun s => (ref01_value_L23 s.1 s.2.1 s.2.2.1 s.2.2.2).run) (l_962.1, l_962.2, c_963, 0)) (fun l_964 =>
                  .pure l_964) (fun l_965 =>
                  .pure l_965))) (fun l_966 =>
              .pure l_966))))))
noncomputable def ref01_value_F (b0 : List Int) : Option Int := (ref01_value_T b0).run
def ref01_value_L : List (Nat × LoopAnn) := [(14, { head := [.sv 0 false (.sl (.int .u8)), .sv 4 true (.int .i64), .sv 5 true (.int .i64)], xid := 0, out := [.sv 0 false (.sl (.int .u8)), .sv 4 true (.int .i64)], hasRet := true, res := [.sv 2 true (.int .i64)] }), (23, { head := [.sv 0 false (.sl (.int .u8)), .sv 4 true (.int .i64), .srow 6 1000006 5 true (.int .u8), .sv 7 true (.int .i64)], xid := 2, out := [.sv 4 true (.int .i64)], hasRet := true, res := [.sv 2 true (.int .i64)] })]
noncomputable def ref01_value_C : List (Nat × Callee) := [(44, .plain ref01_tail_fun), (19, .plain ref01_Bytes_fun)]
noncomputable def ref01_value_fun : Fun := ⟨[.sl (.int .u8)], [.v (.int .i64)], fun x => ref01_value_F x.1⟩
theorem ref01_value_ev (x : Tys.I [.sl (.int .u8)]) : evFun G0 (fun f => olook f ref01_value_C) ⟨[], [], []⟩ (fun i => olook i ref01_value_L) Try.f33 [.sl (.int .u8)] [.v (.int .i64)] x = ref01_value_T x.1 := by kernel_rfl
theorem ref01_value_ok : FunOk Try.prog 33 ref01_value_fun := evFun_ok mixed ctx0 (cons_calls (fb := .plain ref01_tail_fun) ref01_tail_ok (fun h => by cases h) (cons_calls (fb := .plain ref01_Bytes_fun) ref01_Bytes_ok (fun h => by cases h) (no_calls))) Try.func33 (by kernel_rfl) _ (fun x => congrArg Tr.run (ref01_value_ev x)) (by kernel_rfl) (by kernel_rfl)
/-! ### boustrophedon/boustrophedonref01.begins -/
noncomputable def ref01_begins_L17 (b0 : List Int) (n4 : Int) (lo5 : Int) (size6 : Int) (k7 : Int) : Tr (Lap (List Int × Int × Int × Int × Int) (List Int × Int × Int × Int)) :=
  .br (decide (k7 < n4)) (
    .pure (.next (b0, n4, lo5, IntKind.i64.wrap (size6 * 64), IntKind.i64.wrap (k7 + 1)))) (
    .pure (.done (b0, n4, lo5, size6)))
noncomputable def ref01_begins_L21 (b0 : List Int) (n4 : Int) (lo5 : Int) (size6 : Int) (k8 : Int) : Tr (Lap (List Int × Int × Int × Int × Int) (Sum (Int × Int × Int) Bool)) :=
  .br (decide (k8 < (b0.length : Int))) (
    .bnd (idx b0 k8) fun x_3 =>
    .bnd (ref01_tail_F x_3) fun c_4 =>
    .br (!c_4) (
      .pure (.done (.inr false))) (
      .bnd (idx b0 k8) fun x_5 =>
      .pure (.next (b0, n4, IntKind.i64.wrap (lo5 + (IntKind.i64.wrap ((IntKind.i64.wrap (IntKind.u8.wrap (x_5 - 128))) * (IntKind.i64.wrap (size6.tdiv 64))))), IntKind.i64.wrap (size6.tdiv 64), IntKind.i64.wrap (k8 + 1))))) (
    .pure (.done (.inl (n4, lo5, size6))))
noncomputable def ref01_begins_T (b0 : List Int) : Tr Bool :=
  .bnd (idx b0 0) fun x_1 =>
  .br (decide ((IntKind.i64.wrap x_1) ≥ 194)) (
    .br (decide ((IntKind.i64.wrap x_1) < 224)) (
      .br (decide ((IntKind.i64.wrap x_1) ≥ 224)) (
        .br (decide ((IntKind.i64.wrap x_1) < 240)) (
          .br (decide ((IntKind.i64.wrap x_1) ≥ 240)) (
            .br (decide ((IntKind.i64.wrap x_1) < 245)) (
              .br (decide ((b0.length : Int) ≥ 4)) (
                .pure false) (
                .bnd (loopW (fun s => (ref01_begins_L17 s.1 s.2.1 s.2.2.1 s.2.2.2.1 s.2.2.2.2).run) (b0, 4, IntKind.i64.wrap ((IntKind.i64.wrap ((IntKind.i64.wrap x_1) - 240)) * 262144), 1, 1)) fun l_2 =>
                .alt (loopW (fun s => (ref01_begins_L21 s.1 s.2.1 s.2.2.1 s.2.2.2.1 s.2.2.2.2).run) (l_2.1, l_2.2.1, l_2.2.2.1, l_2.2.2.2, 1)) (fun l_6 =>
                  .br (l_6.1 == 3) (
                    .br (l_6.1 == 4) (
                      .br (decide ((IntKind.i64.wrap ((IntKind.i64.wrap (l_6.2.1 + l_6.2.2)) - 1)) < 65536)) (
                        .pure false) (
                        .br (decide (l_6.2.1 > 1114111)) (
                          .pure false) (
                          .br (decide (l_6.2.1 ≥ 55296)) (
                            .pure (!(decide ((IntKind.i64.wrap ((IntKind.i64.wrap (l_6.2.1 + l_6.2.2)) - 1)) ≤ 57343)))) (
                            .pure true)))) (
                      .br (decide ((IntKind.i64.wrap ((IntKind.i64.wrap (l_6.2.1 + l_6.2.2)) - 1)) < 2048)) (
                        .pure false) (
                        .br (decide (l_6.2.1 > 1114111)) (
                          .pure false) (
                          .br (decide (l_6.2.1 ≥ 55296)) (
                            .pure (!(decide ((IntKind.i64.wrap ((IntKind.i64.wrap (l_6.2.1 + l_6.2.2)) - 1)) ≤ 57343)))) (
                            .pure true))))) (
                    .br (l_6.1 == 4) (
                      .br (decide ((IntKind.i64.wrap ((IntKind.i64.wrap (l_6.2.1 + l_6.2.2)) - 1)) < 65536)) (
                        .pure false) (
                        .br (decide (l_6.2.1 > 1114111)) (
                          .pure false) (
                          .br (decide (l_6.2.1 ≥ 55296)) (
                            .pure (!(decide ((IntKind.i64.wrap ((IntKind.i64.wrap (l_6.2.1 + l_6.2.2)) - 1)) ≤ 57343)))) (
                            .pure true)))) (
                      .br (decide ((IntKind.i64.wrap ((IntKind.i64.wrap (l_6.2.1 + l_6.2.2)) - 1)) < 128)) (
                        .pure false) (
                        .br (decide (l_6.2.1 > 1114111)) (
                          .pure false) (
                          .br (decide (l_6.2.1 ≥ 55296)) (
                            .pure (!(decide ((IntKind.i64.wrap ((IntKind.i64.wrap (l_6.2.1 + l_6.2.2)) - 1)) ≤ 57343)))) (
                            .pure true)))))) (fun l_7 =>
                  .pure l_7))) (
              .br (decide ((b0.length : Int) ≥ 3)) (
                .pure false) (
                .bnd (loopW (fun s => (ref01_begins_L17 s.1 s.2.1 s.2.2.1 s.2.2.2.1 s.2.2.2.2).run) (b0, 3, IntKind.i64.wrap ((IntKind.i64.wrap ((IntKind.i64.wrap x_1) - 224)) * 4096), 1, 1)) fun l_8 =>
                .alt (loopW (fun s => (ref01_begins_L21 s.1 s.2.1 s.2.2.1 s.2.2.2.1 s.2.2.2.2).run) (l_8.1, l_8.2.1, l_8.2.2.1, l_8.2.2.2, 1)) (fun l_9 =>
                  .br (l_9.1 == 3) (
                    .br (l_9.1 == 4) (
                      .br (decide ((IntKind.i64.wrap ((IntKind.i64.wrap (l_9.2.1 + l_9.2.2)) - 1)) < 65536)) (
                        .pure false) (
                        .br (decide (l_9.2.1 > 1114111)) (
                          .pure false) (
                          .br (decide (l_9.2.1 ≥ 55296)) (
                            .pure (!(decide ((IntKind.i64.wrap ((IntKind.i64.wrap (l_9.2.1 + l_9.2.2)) - 1)) ≤ 57343)))) (
                            .pure true)))) (
                      .br (decide ((IntKind.i64.wrap ((IntKind.i64.wrap (l_9.2.1 + l_9.2.2)) - 1)) < 2048)) (
                        .pure false) (
                        .br (decide (l_9.2.1 > 1114111)) (
                          .pure false) (
                          .br (decide (l_9.2.1 ≥ 55296)) (
                            .pure (!(decide ((IntKind.i64.wrap ((IntKind.i64.wrap (l_9.2.1 + l_9.2.2)) - 1)) ≤ 57343)))) (
                            .pure true))))) (
                    .br (l_9.1 == 4) (
                      .br (decide ((IntKind.i64.wrap ((IntKind.i64.wrap (l_9.2.1 + l_9.2.2)) - 1)) < 65536)) (
                        .pure false) (
                        .br (decide (l_9.2.1 > 1114111)) (
                          .pure false) (
                          .br (decide (l_9.2.1 ≥ 55296)) (
                            .pure (!(decide ((IntKind.i64.wrap ((IntKind.i64.wrap (l_9.2.1 + l_9.2.2)) - 1)) ≤ 57343)))) (
                            .pure true)))) (
                      .br (decide ((IntKind.i64.wrap ((IntKind.i64.wrap (l_9.2.1 + l_9.2.2)) - 1)) < 128)) (
                        .pure false) (
                        .br (decide (l_9.2.1 > 1114111)) (
                          .pure false) (
                          .br (decide (l_9.2.1 ≥ 55296)) (
                            .pure (!(decide ((IntKind.i64.wrap ((IntKind.i64.wrap (l_9.2.1 + l_9.2.2)) - 1)) ≤ 57343)))) (
                            .pure true)))))) (fun l_10 =>
                  .pure l_10)))) (
            .br (decide ((b0.length : Int) ≥ 3)) (
              .pure false) (
              .bnd (loopW (fun s => (ref01_begins_L17 s.1 s.2.1 s.2.2.1 s.2.2.2.1 s.2.2.2.2).run) (b0, 3, IntKind.i64.wrap ((IntKind.i64.wrap ((IntKind.i64.wrap x_1) - 224)) * 4096), 1, 1)) fun l_11 =>
              .alt (loopW (fun s => (ref01_begins_L21 s.1 s.2.1 s.2.2.1 s.2.2.2.1 s.2.2.2.2).run) (l_11.1, l_11.2.1, l_11.2.2.1, l_11.2.2.2, 1)) (fun l_12 =>
                .br (l_12.1 == 3) (
                  .br (l_12.1 == 4) (
                    .br (decide ((IntKind.i64.wrap ((IntKind.i64.wrap (l_12.2.1 + l_12.2.2)) - 1)) < 65536)) (
                      .pure false) (
                      .br (decide (l_12.2.1 > 1114111)) (
                        .pure false) (
                        .br (decide (l_12.2.1 ≥ 55296)) (
                          .pure (!(decide ((IntKind.i64.wrap ((IntKind.i64.wrap (l_12.2.1 + l_12.2.2)) - 1)) ≤ 57343)))) (
                          .pure true)))) (
                    .br (decide ((IntKind.i64.wrap ((IntKind.i64.wrap (l_12.2.1 + l_12.2.2)) - 1)) < 2048)) (
                      .pure false) (
                      .br (decide (l_12.2.1 > 1114111)) (
                        .pure false) (
                        .br (decide (l_12.2.1 ≥ 55296)) (
                          .pure (!(decide ((IntKind.i64.wrap ((IntKind.i64.wrap (l_12.2.1 + l_12.2.2)) - 1)) ≤ 57343)))) (
                          .pure true))))) (
                  .br (l_12.1 == 4) (
                    .br (decide ((IntKind.i64.wrap ((IntKind.i64.wrap (l_12.2.1 + l_12.2.2)) - 1)) < 65536)) (
                      .pure false) (
                      .br (decide (l_12.2.1 > 1114111)) (
                        .pure false) (
                        .br (decide (l_12.2.1 ≥ 55296)) (
                          .pure (!(decide ((IntKind.i64.wrap ((IntKind.i64.wrap (l_12.2.1 + l_12.2.2)) - 1)) ≤ 57343)))) (
                          .pure true)))) (
                    .br (decide ((IntKind.i64.wrap ((IntKind.i64.wrap (l_12.2.1 + l_12.2.2)) - 1)) < 128)) (
                      .pure false) (
                      .br (decide (l_12.2.1 > 1114111)) (
                        .pure false) (
                        .br (decide (l_12.2.1 ≥ 55296)) (
                          .pure (!(decide ((IntKind.i64.wrap ((IntKind.i64.wrap (l_12.2.1 + l_12.2.2)) - 1)) ≤ 57343)))) (
                          .pure true)))))) (fun l_13 =>
                .pure l_13)))) (
          .br (decide ((IntKind.i64.wrap x_1) ≥ 240)) (
            .br (decide ((IntKind.i64.wrap x_1) < 245)) (
              .br (decide ((b0.length : Int) ≥ 4)) (
                .pure false) (
                .bnd (loopW (fun s => (ref01_begins_L17 s.1 s.2.1 s.2.2.1 s.2.2.2.1 s.2.2.2.2).run) (b0, 4, IntKind.i64.wrap ((IntKind.i64.wrap ((IntKind.i64.wrap x_1) - 240)) * 262144), 1, 1)) fun l_14 =>
                .alt (loopW (fun s => (ref01_begins_L21 s.1 s.2.1 s.2.2.1 s.2.2.2.1 s.2.2.2.2).run) (l_14.1, l_14.2.1, l_14.2.2.1, l_14.2.2.2, 1)) (fun l_15 =>
                  .br (l_15.1 == 3) (
                    .br (l_15.1 == 4) (
                      .br (decide ((IntKind.i64.wrap ((IntKind.i64.wrap (l_15.2.1 + l_15.2.2)) - 1)) < 65536)) (
                        .pure false) (
                        .br (decide (l_15.2.1 > 1114111)) (
                          .pure false) (
                          .br (decide (l_15.2.1 ≥ 55296)) (
                            .pure (!(decide ((IntKind.i64.wrap ((IntKind.i64.wrap (l_15.2.1 + l_15.2.2)) - 1)) ≤ 57343)))) (
                            .pure true)))) (
                      .br (decide ((IntKind.i64.wrap ((IntKind.i64.wrap (l_15.2.1 + l_15.2.2)) - 1)) < 2048)) (
                        .pure false) (
                        .br (decide (l_15.2.1 > 1114111)) (
                          .pure false) (
                          .br (decide (l_15.2.1 ≥ 55296)) (
                            .pure (!(decide ((IntKind.i64.wrap ((IntKind.i64.wrap (l_15.2.1 + l_15.2.2)) - 1)) ≤ 57343)))) (
                            .pure true))))) (
                    .br (l_15.1 == 4) (
                      .br (decide ((IntKind.i64.wrap ((IntKind.i64.wrap (l_15.2.1 + l_15.2.2)) - 1)) < 65536)) (
                        .pure false) (
                        .br (decide (l_15.2.1 > 1114111)) (
                          .pure false) (
                          .br (decide (l_15.2.1 ≥ 55296)) (
                            .pure (!(decide ((IntKind.i64.wrap ((IntKind.i64.wrap (l_15.2.1 + l_15.2.2)) - 1)) ≤ 57343)))) (
                            .pure true)))) (
                      .br (decide ((IntKind.i64.wrap ((IntKind.i64.wrap (l_15.2.1 + l_15.2.2)) - 1)) < 128)) (
                        .pure false) (
                        .br (decide (l_15.2.1 > 1114111)) (
                          .pure false) (
                          .br (decide (l_15.2.1 ≥ 55296)) (
                            .pure (!(decide ((IntKind.i64.wrap ((IntKind.i64.wrap (l_15.2.1 + l_15.2.2)) - 1)) ≤ 57343)))) (
                            .pure true)))))) (fun l_16 =>
                  .pure l_16))) (
              .br (decide ((b0.length : Int) ≥ 2)) (
                .pure false) (
                .bnd (loopW (fun s => (ref01_begins_L17 s.1 s.2.1 s.2.2.1 s.2.2.2.1 s.2.2.2.2).run) (b0, 2, IntKind.i64.wrap ((IntKind.i64.wrap ((IntKind.i64.wrap x_1) - 192)) * 64), 1, 1)) fun l_17 =>
                .alt (loopW (fun s => (ref01_begins_L21 s.1 s.2.1 s.2.2.1 s.2.2.2.1 s.2.2.2.2).run) (l_17.1, l_17.2.1, l_17.2.2.1, l_17.2.2.2, 1)) (fun l_18 =>
                  .br (l_18.1 == 3) (
                    .br (l_18.1 == 4) (
                      .br (decide ((IntKind.i64.wrap ((IntKind.i64.wrap (l_18.2.1 + l_18.2.2)) - 1)) < 65536)) (
                        .pure false) (
                        .br (decide (l_18.2.1 > 1114111)) (
                          .pure false) (
                          .br (decide (l_18.2.1 ≥ 55296)) (
                            .pure (!(decide ((IntKind.i64.wrap ((IntKind.i64.wrap (l_18.2.1 + l_18.2.2)) - 1)) ≤ 57343)))) (
                            .pure true)))) (
                      .br (decide ((IntKind.i64.wrap ((IntKind.i64.wrap (l_18.2.1 + l_18.2.2)) - 1)) < 2048)) (
                        .pure false) (
                        .br (decide (l_18.2.1 > 1114111)) (
                          .pure false) (
                          .br (decide (l_18.2.1 ≥ 55296)) (
                            .pure (!(decide ((IntKind.i64.wrap ((IntKind.i64.wrap (l_18.2.1 + l_18.2.2)) - 1)) ≤ 57343)))) (
                            .pure true))))) (
                    .br (l_18.1 == 4) (
                      .br (decide ((IntKind.i64.wrap ((IntKind.i64.wrap (l_18.2.1 + l_18.2.2)) - 1)) < 65536)) (
                        .pure false) (
                        .br (decide (l_18.2.1 > 1114111)) (
                          .pure false) (
                          .br (decide (l_18.2.1 ≥ 55296)) (
                            .pure (!(decide ((IntKind.i64.wrap ((IntKind.i64.wrap (l_18.2.1 + l_18.2.2)) - 1)) ≤ 57343)))) (
                            .pure true)))) (
                      .br (decide ((IntKind.i64.wrap ((IntKind.i64.wrap (l_18.2.1 + l_18.2.2)) - 1)) < 128)) (
                        .pure false) (
                        .br (decide (l_18.2.1 > 1114111)) (
                          .pure false) (
                          .br (decide (l_18.2.1 ≥ 55296)) (
                            .pure (!(decide ((IntKind.i64.wrap ((IntKind.i64.wrap (l_18.2.1 + l_18.2.2)) - 1)) ≤ 57343)))) (
                            .pure true)))))) (fun l_19 =>
                  .pure l_19)))) (
            .br (decide ((b0.length : Int) ≥ 2)) (
              .pure false) (
              .bnd (loopW (fun s => (ref01_begins_L17 s.1 s.2.1 s.2.2.1 s.2.2.2.1 s.2.2.2.2).run) (b0, 2, IntKind.i64.wrap ((IntKind.i64.wrap ((IntKind.i64.wrap x_1) - 192)) * 64), 1, 1)) fun l_20 =>
              .alt (loopW (fun s => (ref01_begins_L21 s.1 s.2.1 s.2.2.1 s.2.2.2.1 s.2.2.2.2).run) (l_20.1, l_20.2.1, l_20.2.2.1, l_20.2.2.2, 1)) (fun l_21 =>
                .br (l_21.1 == 3) (
                  .br (l_21.1 == 4) (
                    .br (decide ((IntKind.i64.wrap ((IntKind.i64.wrap (l_21.2.1 + l_21.2.2)) - 1)) < 65536)) (
                      .pure false) (
                      .br (decide (l_21.2.1 > 1114111)) (
                        .pure false) (
                        .br (decide (l_21.2.1 ≥ 55296)) (
                          .pure (!(decide ((IntKind.i64.wrap ((IntKind.i64.wrap (l_21.2.1 + l_21.2.2)) - 1)) ≤ 57343)))) (
                          .pure true)))) (
                    .br (decide ((IntKind.i64.wrap ((IntKind.i64.wrap (l_21.2.1 + l_21.2.2)) - 1)) < 2048)) (
                      .pure false) (
                      .br (decide (l_21.2.1 > 1114111)) (
                        .pure false) (
                        .br (decide (l_21.2.1 ≥ 55296)) (
                          .pure (!(decide ((IntKind.i64.wrap ((IntKind.i64.wrap (l_21.2.1 + l_21.2.2)) - 1)) ≤ 57343)))) (
                          .pure true))))) (
                  .br (l_21.1 == 4) (
                    .br (decide ((IntKind.i64.wrap ((IntKind.i64.wrap (l_21.2.1 + l_21.2.2)) - 1)) < 65536)) (
                      .pure false) (
                      .br (decide (l_21.2.1 > 1114111)) (
                        .pure false) (
                        .br (decide (l_21.2.1 ≥ 55296)) (
                          .pure (!(decide ((IntKind.i64.wrap ((IntKind.i64.wrap (l_21.2.1 + l_21.2.2)) - 1)) ≤ 57343)))) (
                          .pure true)))) (
                    .br (decide ((IntKind.i64.wrap ((IntKind.i64.wrap (l_21.2.1 + l_21.2.2)) - 1)) < 128)) (
                      .pure false) (
                      .br (decide (l_21.2.1 > 1114111)) (
                        .pure false) (
                        .br (decide (l_21.2.1 ≥ 55296)) (
                          .pure (!(decide ((IntKind.i64.wrap ((IntKind.i64.wrap (l_21.2.1 + l_21.2.2)) - 1)) ≤ 57343)))) (
                          .pure true)))))) (fun l_22 =>
                .pure l_22))))) (
        .br (decide ((IntKind.i64.wrap x_1) ≥ 240)) (
          .br (decide ((IntKind.i64.wrap x_1) < 245)) (
            .br (decide ((b0.length : Int) ≥ 4)) (
              .pure false) (
              .bnd (loopW (fun s => (ref01_begins_L17 s.1 s.2.1 s.2.2.1 s.2.2.2.1 s.2.2.2.2).run) (b0, 4, IntKind.i64.wrap ((IntKind.i64.wrap ((IntKind.i64.wrap x_1) - 240)) * 262144), 1, 1)) fun l_23 =>
              .alt (loopW (fun s => (ref01_begins_L21 s.1 s.2.1 s.2.2.1 s.2.2.2.1 s.2.2.2.2).run) (l_23.1, l_23.2.1, l_23.2.2.1, l_23.2.2.2, 1)) (fun l_24 =>
                .br (l_24.1 == 3) (
                  .br (l_24.1 == 4) (
                    .br (decide ((IntKind.i64.wrap ((IntKind.i64.wrap (l_24.2.1 + l_24.2.2)) - 1)) < 65536)) (
                      .pure false) (
                      .br (decide (l_24.2.1 > 1114111)) (
                        .pure false) (
                        .br (decide (l_24.2.1 ≥ 55296)) (
                          .pure (!(decide ((IntKind.i64.wrap ((IntKind.i64.wrap (l_24.2.1 + l_24.2.2)) - 1)) ≤ 57343)))) (
                          .pure true)))) (
                    .br (decide ((IntKind.i64.wrap ((IntKind.i64.wrap (l_24.2.1 + l_24.2.2)) - 1)) < 2048)) (
                      .pure false) (
                      .br (decide (l_24.2.1 > 1114111)) (
                        .pure false) (
                        .br (decide (l_24.2.1 ≥ 55296)) (
                          .pure (!(decide ((IntKind.i64.wrap ((IntKind.i64.wrap (l_24.2.1 + l_24.2.2)) - 1)) ≤ 57343)))) (
                          .pure true))))) (
                  .br (l_24.1 == 4) (
                    .br (decide ((IntKind.i64.wrap ((IntKind.i64.wrap (l_24.2.1 + l_24.2.2)) - 1)) < 65536)) (
                      .pure false) (
                      .br (decide (l_24.2.1 > 1114111)) (
                        .pure false) (
                        .br (decide (l_24.2.1 ≥ 55296)) (
                          .pure (!(decide ((IntKind.i64.wrap ((IntKind.i64.wrap (l_24.2.1 + l_24.2.2)) - 1)) ≤ 57343)))) (
                          .pure true)))) (
                    .br (decide ((IntKind.i64.wrap ((IntKind.i64.wrap (l_24.2.1 + l_24.2.2)) - 1)) < 128)) (
                      .pure false) (
                      .br (decide (l_24.2.1 > 1114111)) (
                        .pure false) (
                        .br (decide (l_24.2.1 ≥ 55296)) (
                          .pure (!(decide ((IntKind.i64.wrap ((IntKind.i64.wrap (l_24.2.1 + l_24.2.2)) - 1)) ≤ 57343)))) (
                          .pure true)))))) (fun l_25 =>
                .pure l_25))) (
            .br (decide ((b0.length : Int) ≥ 2)) (
              .pure false) (
              .bnd (loopW (fun s => (ref01_begins_L17 s.1 s.2.1 s.2.2.1 s.2.2.2.1 s.2.2.2.2).run) (b0, 2, IntKind.i64.wrap ((IntKind.i64.wrap ((IntKind.i64.wrap x_1) - 192)) * 64), 1, 1)) fun l_26 =>
              .alt (loopW (fun s => (ref01_begins_L21 s.1 s.2.1 s.2.2.1 s.2.2.2.1 s.2.2.2.2).run) (l_26.1, l_26.2.1, l_26.2.2.1, l_26.2.2.2, 1)) (fun l_27 =>
                .br (l_27.1 == 3) (
                  .br (l_27.1 == 4) (
                    .br (decide ((IntKind.i64.wrap ((IntKind.i64.wrap (l_27.2.1 + l_27.2.2)) - 1)) < 65536)) (
                      .pure false) (
                      .br (decide (l_27.2.1 > 1114111)) (
                        .pure false) (
                        .br (decide (l_27.2.1 ≥ 55296)) (
                          .pure (!(decide ((IntKind.i64.wrap ((IntKind.i64.wrap (l_27.2.1 + l_27.2.2)) - 1)) ≤ 57343)))) (
                          .pure true)))) (
                    .br (decide ((IntKind.i64.wrap ((IntKind.i64.wrap (l_27.2.1 + l_27.2.2)) - 1)) < 2048)) (
                      .pure false) (
                      .br (decide (l_27.2.1 > 1114111)) (
                        .pure false) (
                        .br (decide (l_27.2.1 ≥ 55296)) (
                          .pure (!(decide ((IntKind.i64.wrap ((IntKind.i64.wrap (l_27.2.1 + l_27.2.2)) - 1)) ≤ 57343)))) (
                          .pure true))))) (
                  .br (l_27.1 == 4) (
                    .br (decide ((IntKind.i64.wrap ((IntKind.i64.wrap (l_27.2.1 + l_27.2.2)) - 1)) < 65536)) (
                      .pure false) (
                      .br (decide (l_27.2.1 > 1114111)) (
                        .pure false) (
                        .br (decide (l_27.2.1 ≥ 55296)) (
                          .pure (!(decide ((IntKind.i64.wrap ((IntKind.i64.wrap (l_27.2.1 + l_27.2.2)) - 1)) ≤ 57343)))) (
                          .pure true)))) (
                    .br (decide ((IntKind.i64.wrap ((IntKind.i64.wrap (l_27.2.1 + l_27.2.2)) - 1)) < 128)) (
                      .pure false) (
                      .br (decide (l_27.2.1 > 1114111)) (
                        .pure false) (
                        .br (decide (l_27.2.1 ≥ 55296)) (
                          .pure (!(decide ((IntKind.i64.wrap ((IntKind.i64.wrap (l_27.2.1 + l_27.2.2)) - 1)) ≤ 57343)))) (
                          .pure true)))))) (fun l_28 =>
                .pure l_28)))) (
          .br (decide ((b0.length : Int) ≥ 2)) (
            .pure false) (
            .bnd (loopW (fun s => (ref01_begins_L17 s.1 s.2.1 s.2.2.1 s.2.2.2.1 s.2.2.2.2).run) (b0, 2, IntKind.i64.wrap ((IntKind.i64.wrap ((IntKind.i64.wrap x_1) - 192)) * 64), 1, 1)) fun l_29 =>
            .alt (loopW (fun s => (ref01_begins_L21 s.1 s.2.1 s.2.2.1 s.2.2.2.1 s.2.2.2.2).run) (l_29.1, l_29.2.1, l_29.2.2.1, l_29.2.2.2, 1)) (fun l_30 =>
              .br (l_30.1 == 3) (
                .br (l_30.1 == 4) (
                  .br (decide ((IntKind.i64.wrap ((IntKind.i64.wrap (l_30.2.1 + l_30.2.2)) - 1)) < 65536)) (
                    .pure false) (
                    .br (decide (l_30.2.1 > 1114111)) (
                      .pure false) (
                      .br (decide (l_30.2.1 ≥ 55296)) (
                        .pure (!(decide ((IntKind.i64.wrap ((IntKind.i64.wrap (l_30.2.1 + l_30.2.2)) - 1)) ≤ 57343)))) (
                        .pure true)))) (
                  .br (decide ((IntKind.i64.wrap ((IntKind.i64.wrap (l_30.2.1 + l_30.2.2)) - 1)) < 2048)) (
                    .pure false) (
                    .br (decide (l_30.2.1 > 1114111)) (
                      .pure false) (
                      .br (decide (l_30.2.1 ≥ 55296)) (
                        .pure (!(decide ((IntKind.i64.wrap ((IntKind.i64.wrap (l_30.2.1 + l_30.2.2)) - 1)) ≤ 57343)))) (
                        .pure true))))) (
                .br (l_30.1 == 4) (
                  .br (decide ((IntKind.i64.wrap ((IntKind.i64.wrap (l_30.2.1 + l_30.2.2)) - 1)) < 65536)) (
                    .pure false) (
                    .br (decide (l_30.2.1 > 1114111)) (
                      .pure false) (
                      .br (decide (l_30.2.1 ≥ 55296)) (
                        .pure (!(decide ((IntKind.i64.wrap ((IntKind.i64.wrap (l_30.2.1 + l_30.2.2)) - 1)) ≤ 57343)))) (
                        .pure true)))) (
                  .br (decide ((IntKind.i64.wrap ((IntKind.i64.wrap (l_30.2.1 + l_30.2.2)) - 1)) < 128)) (
                    .pure false) (
                    .br (decide (l_30.2.1 > 1114111)) (
                      .pure false) (
                      .br (decide (l_30.2.1 ≥ 55296)) (
                        .pure (!(decide ((IntKind.i64.wrap ((IntKind.i64.wrap (l_30.2.1 + l_30.2.2)) - 1)) ≤ 57343)))) (
                        .pure true)))))) (fun l_31 =>
              .pure l_31))))) (
      .br (decide ((IntKind.i64.wrap x_1) ≥ 224)) (
        .br (decide ((IntKind.i64.wrap x_1) < 240)) (
          .br (decide ((IntKind.i64.wrap x_1) ≥ 240)) (
            .br (decide ((IntKind.i64.wrap x_1) < 245)) (
              .br (decide ((b0.length : Int) ≥ 4)) (
                .pure false) (
                .bnd (loopW (fun s => (ref01_begins_L17 s.1 s.2.1 s.2.2.1 s.2.2.2.1 s.2.2.2.2).run) (b0, 4, IntKind.i64.wrap ((IntKind.i64.wrap ((IntKind.i64.wrap x_1) - 240)) * 262144), 1, 1)) fun l_32 =>
                .alt (loopW (fun s => (ref01_begins_L21 s.1 s.2.1 s.2.2.1 s.2.2.2.1 s.2.2.2.2).run) (l_32.1, l_32.2.1, l_32.2.2.1, l_32.2.2.2, 1)) (fun l_33 =>
                  .br (l_33.1 == 3) (
                    .br (l_33.1 == 4) (
                      .br (decide ((IntKind.i64.wrap ((IntKind.i64.wrap (l_33.2.1 + l_33.2.2)) - 1)) < 65536)) (
                        .pure false) (
                        .br (decide (l_33.2.1 > 1114111)) (
                          .pure false) (
                          .br (decide (l_33.2.1 ≥ 55296)) (
                            .pure (!(decide ((IntKind.i64.wrap ((IntKind.i64.wrap (l_33.2.1 + l_33.2.2)) - 1)) ≤ 57343)))) (
                            .pure true)))) (
                      .br (decide ((IntKind.i64.wrap ((IntKind.i64.wrap (l_33.2.1 + l_33.2.2)) - 1)) < 2048)) (
                        .pure false) (
                        .br (decide (l_33.2.1 > 1114111)) (
                          .pure false) (
                          .br (decide (l_33.2.1 ≥ 55296)) (
                            .pure (!(decide ((IntKind.i64.wrap ((IntKind.i64.wrap (l_33.2.1 + l_33.2.2)) - 1)) ≤ 57343)))) (
                            .pure true))))) (
                    .br (l_33.1 == 4) (
                      .br (decide ((IntKind.i64.wrap ((IntKind.i64.wrap (l_33.2.1 + l_33.2.2)) - 1)) < 65536)) (
                        .pure false) (
                        .br (decide (l_33.2.1 > 1114111)) (
                          .pure false) (
                          .br (decide (l_33.2.1 ≥ 55296)) (
                            .pure (!(decide ((IntKind.i64.wrap ((IntKind.i64.wrap (l_33.2.1 + l_33.2.2)) - 1)) ≤ 57343)))) (
                            .pure true)))) (
                      .br (decide ((IntKind.i64.wrap ((IntKind.i64.wrap (l_33.2.1 + l_33.2.2)) - 1)) < 128)) (
                        .pure false) (
                        .br (decide (l_33.2.1 > 1114111)) (
                          .pure false) (
                          .br (decide (l_33.2.1 ≥ 55296)) (
                            .pure (!(decide ((IntKind.i64.wrap ((IntKind.i64.wrap (l_33.2.1 + l_33.2.2)) - 1)) ≤ 57343)))) (
                            .pure true)))))) (fun l_34 =>
                  .pure l_34))) (
              .br (decide ((b0.length : Int) ≥ 3)) (
                .pure false) (
                .bnd (loopW (fun s => (ref01_begins_L17 s.1 s.2.1 s.2.2.1 s.2.2.2.1 s.2.2.2.2).run) (b0, 3, IntKind.i64.wrap ((IntKind.i64.wrap ((IntKind.i64.wrap x_1) - 224)) * 4096), 1, 1)) fun l_35 =>
                .alt (loopW (fun s => (ref01_begins_L21 s.1 s.2.1 s.2.2.1 s.2.2.2.1 s.2.2.2.2).run) (l_35.1, l_35.2.1, l_35.2.2.1, l_35.2.2.2, 1)) (fun l_36 =>
                  .br (l_36.1 == 3) (
                    .br (l_36.1 == 4) (
                      .br (decide ((IntKind.i64.wrap ((IntKind.i64.wrap (l_36.2.1 + l_36.2.2)) - 1)) < 65536)) (
                        .pure false) (
                        .br (decide (l_36.2.1 > 1114111)) (
                          .pure false) (
                          .br (decide (l_36.2.1 ≥ 55296)) (
                            .pure (!(decide ((IntKind.i64.wrap ((IntKind.i64.wrap (l_36.2.1 + l_36.2.2)) - 1)) ≤ 57343)))) (
                            .pure true)))) (
                      .br (decide ((IntKind.i64.wrap ((IntKind.i64.wrap (l_36.2.1 + l_36.2.2)) - 1)) < 2048)) (
                        .pure false) (
                        .br (decide (l_36.2.1 > 1114111)) (
                          .pure false) (
                          .br (decide (l_36.2.1 ≥ 55296)) (
                            .pure (!(decide ((IntKind.i64.wrap ((IntKind.i64.wrap (l_36.2.1 + l_36.2.2)) - 1)) ≤ 57343)))) (
                            .pure true))))) (
                    .br (l_36.1 == 4) (
                      .br (decide ((IntKind.i64.wrap ((IntKind.i64.wrap (l_36.2.1 + l_36.2.2)) - 1)) < 65536)) (
                        .pure false) (
                        .br (decide (l_36.2.1 > 1114111)) (
                          .pure false) (
                          .br (decide (l_36.2.1 ≥ 55296)) (
                            .pure (!(decide ((IntKind.i64.wrap ((IntKind.i64.wrap (l_36.2.1 + l_36.2.2)) - 1)) ≤ 57343)))) (
                            .pure true)))) (
                      .br (decide ((IntKind.i64.wrap ((IntKind.i64.wrap (l_36.2.1 + l_36.2.2)) - 1)) < 128)) (
                        .pure false) (
                        .br (decide (l_36.2.1 > 1114111)) (
                          .pure false) (
                          .br (decide (l_36.2.1 ≥ 55296)) (
                            .pure (!(decide ((IntKind.i64.wrap ((IntKind.i64.wrap (l_36.2.1 + l_36.2.2)) - 1)) ≤ 57343)))) (
                            .pure true)))))) (fun l_37 =>
                  .pure l_37)))) (
            .br (decide ((b0.length : Int) ≥ 3)) (
              .pure false) (
              .bnd (loopW (fun s => (ref01_begins_L17 s.1 s.2.1 s.2.2.1 s.2.2.2.1 s.2.2.2.2).run) (b0, 3, IntKind.i64.wrap ((IntKind.i64.wrap ((IntKind.i64.wrap x_1) - 224)) * 4096), 1, 1)) fun l_38 =>
              .alt (loopW (fun s => (ref01_begins_L21 s.1 s.2.1 s.2.2.1 s.2.2.2.1 s.2.2.2.2).run) (l_38.1, l_38.2.1, l_38.2.2.1, l_38.2.2.2, 1)) (fun l_39 =>
                .br (l_39.1 == 3) (
                  .br (l_39.1 == 4) (
                    .br (decide ((IntKind.i64.wrap ((IntKind.i64.wrap (l_39.2.1 + l_39.2.2)) - 1)) < 65536)) (
                      .pure false) (
                      .br (decide (l_39.2.1 > 1114111)) (
                        .pure false) (
                        .br (decide (l_39.2.1 ≥ 55296)) (
                          .pure (!(decide ((IntKind.i64.wrap ((IntKind.i64.wrap (l_39.2.1 + l_39.2.2)) - 1)) ≤ 57343)))) (
                          .pure true)))) (
                    .br (decide ((IntKind.i64.wrap ((IntKind.i64.wrap (l_39.2.1 + l_39.2.2)) - 1)) < 2048)) (
                      .pure false) (
                      .br (decide (l_39.2.1 > 1114111)) (
                        .pure false) (
                        .br (decide (l_39.2.1 ≥ 55296)) (
                          .pure (!(decide ((IntKind.i64.wrap ((IntKind.i64.wrap (l_39.2.1 + l_39.2.2)) - 1)) ≤ 57343)))) (
                          .pure true))))) (
                  .br (l_39.1 == 4) (
                    .br (decide ((IntKind.i64.wrap ((IntKind.i64.wrap (l_39.2.1 + l_39.2.2)) - 1)) < 65536)) (
                      .pure false) (
                      .br (decide (l_39.2.1 > 1114111)) (
                        .pure false) (
                        .br (decide (l_39.2.1 ≥ 55296)) (
                          .pure (!(decide ((IntKind.i64.wrap ((IntKind.i64.wrap (l_39.2.1 + l_39.2.2)) - 1)) ≤ 57343)))) (
                          .pure true)))) (
                    .br (decide ((IntKind.i64.wrap ((IntKind.i64.wrap (l_39.2.1 + l_39.2.2)) - 1)) < 128)) (
                      .pure false) (
                      .br (decide (l_39.2.1 > 1114111)) (
                        .pure false) (
                        .br (decide (l_39.2.1 ≥ 55296)) (
                          .pure (!(decide ((IntKind.i64.wrap ((IntKind.i64.wrap (l_39.2.1 + l_39.2.2)) - 1)) ≤ 57343)))) (
                          .pure true)))))) (fun l_40 =>
                .pure l_40)))) (
          .br (decide ((IntKind.i64.wrap x_1) ≥ 240)) (
            .br (decide ((IntKind.i64.wrap x_1) < 245)) (
              .br (decide ((b0.length : Int) ≥ 4)) (
                .pure false) (
                .bnd (loopW (fun s => (ref01_begins_L17 s.1 s.2.1 s.2.2.1 s.2.2.2.1 s.2.2.2.2).run) (b0, 4, IntKind.i64.wrap ((IntKind.i64.wrap ((IntKind.i64.wrap x_1) - 240)) * 262144), 1, 1)) fun l_41 =>
                .alt (loopW (fun s => (ref01_begins_L21 s.1 s.2.1 s.2.2.1 s.2.2.2.1 s.2.2.2.2).run) (l_41.1, l_41.2.1, l_41.2.2.1, l_41.2.2.2, 1)) (fun l_42 =>
                  .br (l_42.1 == 3) (
                    .br (l_42.1 == 4) (
                      .br (decide ((IntKind.i64.wrap ((IntKind.i64.wrap (l_42.2.1 + l_42.2.2)) - 1)) < 65536)) (
                        .pure false) (
                        .br (decide (l_42.2.1 > 1114111)) (
                          .pure false) (
                          .br (decide (l_42.2.1 ≥ 55296)) (
                            .pure (!(decide ((IntKind.i64.wrap ((IntKind.i64.wrap (l_42.2.1 + l_42.2.2)) - 1)) ≤ 57343)))) (
                            .pure true)))) (
                      .br (decide ((IntKind.i64.wrap ((IntKind.i64.wrap (l_42.2.1 + l_42.2.2)) - 1)) < 2048)) (
                        .pure false) (
                        .br (decide (l_42.2.1 > 1114111)) (
                          .pure false) (
                          .br (decide (l_42.2.1 ≥ 55296)) (
                            .pure (!(decide ((IntKind.i64.wrap ((IntKind.i64.wrap (l_42.2.1 + l_42.2.2)) - 1)) ≤ 57343)))) (
                            .pure true))))) (
                    .br (l_42.1 == 4) (
                      .br (decide ((IntKind.i64.wrap ((IntKind.i64.wrap (l_42.2.1 + l_42.2.2)) - 1)) < 65536)) (
                        .pure false) (
                        .br (decide (l_42.2.1 > 1114111)) (
                          .pure false) (
                          .br (decide (l_42.2.1 ≥ 55296)) (
                            .pure (!(decide ((IntKind.i64.wrap ((IntKind.i64.wrap (l_42.2.1 + l_42.2.2)) - 1)) ≤ 57343)))) (
                            .pure true)))) (
                      .br (decide ((IntKind.i64.wrap ((IntKind.i64.wrap (l_42.2.1 + l_42.2.2)) - 1)) < 128)) (
                        .pure false) (
                        .br (decide (l_42.2.1 > 1114111)) (
                          .pure false) (
                          .br (decide (l_42.2.1 ≥ 55296)) (
                            .pure (!(decide ((IntKind.i64.wrap ((IntKind.i64.wrap (l_42.2.1 + l_42.2.2)) - 1)) ≤ 57343)))) (
                            .pure true)))))) (fun l_43 =>
                  .pure l_43))) (
              .br (decide ((b0.length : Int) ≥ 0)) (
                .pure false) (
                .bnd (loopW (fun s => (ref01_begins_L17 s.1 s.2.1 s.2.2.1 s.2.2.2.1 s.2.2.2.2).run) (b0, 0, 0, 1, 1)) fun l_44 =>
                .alt (loopW (fun s => (ref01_begins_L21 s.1 s.2.1 s.2.2.1 s.2.2.2.1 s.2.2.2.2).run) (l_44.1, l_44.2.1, l_44.2.2.1, l_44.2.2.2, 1)) (fun l_45 =>
                  .br (l_45.1 == 3) (
                    .br (l_45.1 == 4) (
                      .br (decide ((IntKind.i64.wrap ((IntKind.i64.wrap (l_45.2.1 + l_45.2.2)) - 1)) < 65536)) (
                        .pure false) (
                        .br (decide (l_45.2.1 > 1114111)) (
                          .pure false) (
                          .br (decide (l_45.2.1 ≥ 55296)) (
                            .pure (!(decide ((IntKind.i64.wrap ((IntKind.i64.wrap (l_45.2.1 + l_45.2.2)) - 1)) ≤ 57343)))) (
                            .pure true)))) (
                      .br (decide ((IntKind.i64.wrap ((IntKind.i64.wrap (l_45.2.1 + l_45.2.2)) - 1)) < 2048)) (
                        .pure false) (
                        .br (decide (l_45.2.1 > 1114111)) (
                          .pure false) (
                          .br (decide (l_45.2.1 ≥ 55296)) (
                            .pure (!(decide ((IntKind.i64.wrap ((IntKind.i64.wrap (l_45.2.1 + l_45.2.2)) - 1)) ≤ 57343)))) (
                            .pure true))))) (
                    .br (l_45.1 == 4) (
                      .br (decide ((IntKind.i64.wrap ((IntKind.i64.wrap (l_45.2.1 + l_45.2.2)) - 1)) < 65536)) (
                        .pure false) (
                        .br (decide (l_45.2.1 > 1114111)) (
                          .pure false) (
                          .br (decide (l_45.2.1 ≥ 55296)) (
                            .pure (!(decide ((IntKind.i64.wrap ((IntKind.i64.wrap (l_45.2.1 + l_45.2.2)) - 1)) ≤ 57343)))) (
                            .pure true)))) (
                      .br (decide ((IntKind.i64.wrap ((IntKind.i64.wrap (l_45.2.1 + l_45.2.2)) - 1)) < 128)) (
                        .pure false) (
                        .br (decide (l_45.2.1 > 1114111)) (
                          .pure false) (
                          .br (decide (l_45.2.1 ≥ 55296)) (
                            .pure (!(decide ((IntKind.i64.wrap ((IntKind.i64.wrap (l_45.2.1 + l_45.2.2)) - 1)) ≤ 57343)))) (
                            .pure true)))))) (fun l_46 =>
                  .pure l_46)))) (
            .br (decide ((b0.length : Int) ≥ 0)) (
              .pure false) (
              .bnd (loopW (fun s => (ref01_begins_L17 s.1 s.2.1 s.2.2.1 s.2.2.2.1 s.2.2.2.2).run) (b0, 0, 0, 1, 1)) fun l_47 =>
              .alt (loopW (fun s => (ref01_begins_L21 s.1 s.2.1 s.2.2.1 s.2.2.2.1 s.2.2.2.2).run) (l_47.1, l_47.2.1, l_47.2.2.1, l_47.2.2.2, 1)) (fun l_48 =>
                .br (l_48.1 == 3) (
                  .br (l_48.1 == 4) (
                    .br (decide ((IntKind.i64.wrap ((IntKind.i64.wrap (l_48.2.1 + l_48.2.2)) - 1)) < 65536)) (
                      .pure false) (
                      .br (decide (l_48.2.1 > 1114111)) (
                        .pure false) (
                        .br (decide (l_48.2.1 ≥ 55296)) (
                          .pure (!(decide ((IntKind.i64.wrap ((IntKind.i64.wrap (l_48.2.1 + l_48.2.2)) - 1)) ≤ 57343)))) (
                          .pure true)))) (
                    .br (decide ((IntKind.i64.wrap ((IntKind.i64.wrap (l_48.2.1 + l_48.2.2)) - 1)) < 2048)) (
                      .pure false) (
                      .br (decide (l_48.2.1 > 1114111)) (
                        .pure false) (
                        .br (decide (l_48.2.1 ≥ 55296)) (
                          .pure (!(decide ((IntKind.i64.wrap ((IntKind.i64.wrap (l_48.2.1 + l_48.2.2)) - 1)) ≤ 57343)))) (
                          .pure true))))) (
                  .br (l_48.1 == 4) (
                    .br (decide ((IntKind.i64.wrap ((IntKind.i64.wrap (l_48.2.1 + l_48.2.2)) - 1)) < 65536)) (
                      .pure false) (
                      .br (decide (l_48.2.1 > 1114111)) (
                        .pure false) (
                        .br (decide (l_48.2.1 ≥ 55296)) (
                          .pure (!(decide ((IntKind.i64.wrap ((IntKind.i64.wrap (l_48.2.1 + l_48.2.2)) - 1)) ≤ 57343)))) (
                          .pure true)))) (
                    .br (decide ((IntKind.i64.wrap ((IntKind.i64.wrap (l_48.2.1 + l_48.2.2)) - 1)) < 128)) (
                      .pure false) (
                      .br (decide (l_48.2.1 > 1114111)) (
                        .pure false) (
                        .br (decide (l_48.2.1 ≥ 55296)) (
                          .pure (!(decide ((IntKind.i64.wrap ((IntKind.i64.wrap (l_48.2.1 + l_48.2.2)) - 1)) ≤ 57343)))) (
                          .pure true)))))) (fun l_49 =>
                .pure l_49))))) (
        .br (decide ((IntKind.i64.wrap x_1) ≥ 240)) (
          .br (decide ((IntKind.i64.wrap x_1) < 245)) (
            .br (decide ((b0.length : Int) ≥ 4)) (
              .pure false) (
              .bnd (loopW (fun s => (ref01_begins_L17 s.1 s.2.1 s.2.2.1 s.2.2.2.1 s.2.2.2.2).run) (b0, 4, IntKind.i64.wrap ((IntKind.i64.wrap ((IntKind.i64.wrap x_1) - 240)) * 262144), 1, 1)) fun l_50 =>
              .alt (loopW (fun s => (ref01_begins_L21 s.1 s.2.1 s.2.2.1 s.2.2.2.1 s.2.2.2.2).run) (l_50.1, l_50.2.1, l_50.2.2.1, l_50.2.2.2, 1)) (fun l_51 =>
                .br (l_51.1 == 3) (
                  .br (l_51.1 == 4) (
                    .br (decide ((IntKind.i64.wrap ((IntKind.i64.wrap (l_51.2.1 + l_51.2.2)) - 1)) < 65536)) (
                      .pure false) (
                      .br (decide (l_51.2.1 > 1114111)) (
                        .pure false) (
                        .br (decide (l_51.2.1 ≥ 55296)) (
                          .pure (!(decide ((IntKind.i64.wrap ((IntKind.i64.wrap (l_51.2.1 + l_51.2.2)) - 1)) ≤ 57343)))) (
                          .pure true)))) (
                    .br (decide ((IntKind.i64.wrap ((IntKind.i64.wrap (l_51.2.1 + l_51.2.2)) - 1)) < 2048)) (
                      .pure false) (
                      .br (decide (l_51.2.1 > 1114111)) (
                        .pure false) (
                        .br (decide (l_51.2.1 ≥ 55296)) (
                          .pure (!(decide ((IntKind.i64.wrap ((IntKind.i64.wrap (l_51.2.1 + l_51.2.2)) - 1)) ≤ 57343)))) (
                          .pure true))))) (
                  .br (l_51.1 == 4) (
                    .br (decide ((IntKind.i64.wrap ((IntKind.i64.wrap (l_51.2.1 + l_51.2.2)) - 1)) < 65536)) (
                      .pure false) (
                      .br (decide (l_51.2.1 > 1114111)) (
                        .pure false) (
                        .br (decide (l_51.2.1 ≥ 55296)) (
                          .pure (!(decide ((IntKind.i64.wrap ((IntKind.i64.wrap (l_51.2.1 + l_51.2.2)) - 1)) ≤ 57343)))) (
                          .pure true)))) (
                    .br (decide ((IntKind.i64.wrap ((IntKind.i64.wrap (l_51.2.1 + l_51.2.2)) - 1)) < 128)) (
                      .pure false) (
                      .br (decide (l_51.2.1 > 1114111)) (
                        .pure false) (
                        .br (decide (l_51.2.1 ≥ 55296)) (
                          .pure (!(decide ((IntKind.i64.wrap ((IntKind.i64.wrap (l_51.2.1 + l_51.2.2)) - 1)) ≤ 57343)))) (
                          .pure true)))))) (fun l_52 =>
                .pure l_52))) (
            .br (decide ((b0.length : Int) ≥ 0)) (
              .pure false) (
              .bnd (loopW (fun s => (ref01_begins_L17 s.1 s.2.1 s.2.2.1 s.2.2.2.1 s.2.2.2.2).run) (b0, 0, 0, 1, 1)) fun l_53 =>
              .alt (loopW (fun s => (ref01_begins_L21 s.1 s.2.1 s.2.2.1 s.2.2.2.1 s.2.2.2.2).run) (l_53.1, l_53.2.1, l_53.2.2.1, l_53.2.2.2, 1)) (fun l_54 =>
                .br (l_54.1 == 3) (
                  .br (l_54.1 == 4) (
                    .br (decide ((IntKind.i64.wrap ((IntKind.i64.wrap (l_54.2.1 + l_54.2.2)) - 1)) < 65536)) (
                      .pure false) (
                      .br (decide (l_54.2.1 > 1114111)) (
                        .pure false) (
                        .br (decide (l_54.2.1 ≥ 55296)) (
                          .pure (!(decide ((IntKind.i64.wrap ((IntKind.i64.wrap (l_54.2.1 + l_54.2.2)) - 1)) ≤ 57343)))) (
                          .pure true)))) (
                    .br (decide ((IntKind.i64.wrap ((IntKind.i64.wrap (l_54.2.1 + l_54.2.2)) - 1)) < 2048)) (
                      .pure false) (
                      .br (decide (l_54.2.1 > 1114111)) (
                        .pure false) (
                        .br (decide (l_54.2.1 ≥ 55296)) (
                          .pure (!(decide ((IntKind.i64.wrap ((IntKind.i64.wrap (l_54.2.1 + l_54.2.2)) - 1)) ≤ 57343)))) (
                          .pure true))))) (
                  .br (l_54.1 == 4) (
                    .br (decide ((IntKind.i64.wrap ((IntKind.i64.wrap (l_54.2.1 + l_54.2.2)) - 1)) < 65536)) (
                      .pure false) (
                      .br (decide (l_54.2.1 > 1114111)) (
                        .pure false) (
                        .br (decide (l_54.2.1 ≥ 55296)) (
                          .pure (!(decide ((IntKind.i64.wrap ((IntKind.i64.wrap (l_54.2.1 + l_54.2.2)) - 1)) ≤ 57343)))) (
                          .pure true)))) (
                    .br (decide ((IntKind.i64.wrap ((IntKind.i64.wrap (l_54.2.1 + l_54.2.2)) - 1)) < 128)) (
                      .pure false) (
                      .br (decide (l_54.2.1 > 1114111)) (
                        .pure false) (
                        .br (decide (l_54.2.1 ≥ 55296)) (
                          .pure (!(decide ((IntKind.i64.wrap ((IntKind.i64.wrap (l_54.2.1 + l_54.2.2)) - 1)) ≤ 57343)))) (
                          .pure true)))))) (fun l_55 =>
                .pure l_55)))) (
          .br (decide ((b0.length : Int) ≥ 0)) (
            .pure false) (
            .bnd (loopW (fun s => (ref01_begins_L17 s.1 s.2.1 s.2.2.1 s.2.2.2.1 s.2.2.2.2).run) (b0, 0, 0, 1, 1)) fun l_56 =>
            .alt (loopW (fun s => (ref01_begins_L21 s.1 s.2.1 s.2.2.1 s.2.2.2.1 s.2.2.2.2).run) (l_56.1, l_56.2.1, l_56.2.2.1, l_56.2.2.2, 1)) (fun l_57 =>
              .br (l_57.1 == 3) (
                .br (l_57.1 == 4) (
                  .br (decide ((IntKind.i64.wrap ((IntKind.i64.wrap (l_57.2.1 + l_57.2.2)) - 1)) < 65536)) (
                    .pure false) (
                    .br (decide (l_57.2.1 > 1114111)) (
                      .pure false) (
                      .br (decide (l_57.2.1 ≥ 55296)) (
                        .pure (!(decide ((IntKind.i64.wrap ((IntKind.i64.wrap (l_57.2.1 + l_57.2.2)) - 1)) ≤ 57343)))) (
                        .pure true)))) (
                  .br (decide ((IntKind.i64.wrap ((IntKind.i64.wrap (l_57.2.1 + l_57.2.2)) - 1)) < 2048)) (
                    .pure false) (
                    .br (decide (l_57.2.1 > 1114111)) (
                      .pure false) (
                      .br (decide (l_57.2.1 ≥ 55296)) (
                        .pure (!(decide ((IntKind.i64.wrap ((IntKind.i64.wrap (l_57.2.1 + l_57.2.2)) - 1)) ≤ 57343)))) (
                        .pure true))))) (
                .br (l_57.1 == 4) (
                  .br (decide ((IntKind.i64.wrap ((IntKind.i64.wrap (l_57.2.1 + l_57.2.2)) - 1)) < 65536)) (
                    .pure false) (
                    .br (decide (l_57.2.1 > 1114111)) (
                      .pure false) (
                      .br (decide (l_57.2.1 ≥ 55296)) (
                        .pure (!(decide ((IntKind.i64.wrap ((IntKind.i64.wrap (l_57.2.1 + l_57.2.2)) - 1)) ≤ 57343)))) (
                        .pure true)))) (
                  .br (decide ((IntKind.i64.wrap ((IntKind.i64.wrap (l_57.2.1 + l_57.2.2)) - 1)) < 128)) (
                    .pure false) (
                    .br (decide (l_57.2.1 > 1114111)) (
                      .pure false) (
                      .br (decide (l_57.2.1 ≥ 55296)) (
                        .pure (!(decide ((IntKind.i64.wrap ((IntKind.i64.wrap (l_57.2.1 + l_57.2.2)) - 1)) ≤ 57343)))) (
                        .pure true)))))) (fun l_58 =>
              .pure l_58)))))) (
    .br (decide ((IntKind.i64.wrap x_1) ≥ 224)) (
      .br (decide ((IntKind.i64.wrap x_1) < 240)) (
        .br (decide ((IntKind.i64.wrap x_1) ≥ 240)) (
          .br (decide ((IntKind.i64.wrap x_1) < 245)) (
            .br (decide ((b0.length : Int) ≥ 4)) (
              .pure false) (
              .bnd (loopW (fun s => (ref01_begins_L17 s.1 s.2.1 s.2.2.1 s.2.2.2.1 s.2.2.2.2).run) (b0, 4, IntKind.i64.wrap ((IntKind.i64.wrap ((IntKind.i64.wrap x_1) - 240)) * 262144), 1, 1)) fun l_59 =>
              .alt (loopW (fun s => (ref01_begins_L21 s.1 s.2.1 s.2.2.1 s.2.2.2.1 s.2.2.2.2).run) (l_59.1, l_59.2.1, l_59.2.2.1, l_59.2.2.2, 1)) (fun l_60 =>
                .br (l_60.1 == 3) (
                  .br (l_60.1 == 4) (
                    .br (decide ((IntKind.i64.wrap ((IntKind.i64.wrap (l_60.2.1 + l_60.2.2)) - 1)) < 65536)) (
                      .pure false) (
                      .br (decide (l_60.2.1 > 1114111)) (
                        .pure false) (
                        .br (decide (l_60.2.1 ≥ 55296)) (
                          .pure (!(decide ((IntKind.i64.wrap ((IntKind.i64.wrap (l_60.2.1 + l_60.2.2)) - 1)) ≤ 57343)))) (
                          .pure true)))) (
                    .br (decide ((IntKind.i64.wrap ((IntKind.i64.wrap (l_60.2.1 + l_60.2.2)) - 1)) < 2048)) (
                      .pure false) (
                      .br (decide (l_60.2.1 > 1114111)) (
                        .pure false) (
                        .br (decide (l_60.2.1 ≥ 55296)) (
                          .pure (!(decide ((IntKind.i64.wrap ((IntKind.i64.wrap (l_60.2.1 + l_60.2.2)) - 1)) ≤ 57343)))) (
                          .pure true))))) (
                  .br (l_60.1 == 4) (
                    .br (decide ((IntKind.i64.wrap ((IntKind.i64.wrap (l_60.2.1 + l_60.2.2)) - 1)) < 65536)) (
                      .pure false) (
                      .br (decide (l_60.2.1 > 1114111)) (
                        .pure false) (
                        .br (decide (l_60.2.1 ≥ 55296)) (
                          .pure (!(decide ((IntKind.i64.wrap ((IntKind.i64.wrap (l_60.2.1 + l_60.2.2)) - 1)) ≤ 57343)))) (
                          .pure true)))) (
                    .br (decide ((IntKind.i64.wrap ((IntKind.i64.wrap (l_60.2.1 + l_60.2.2)) - 1)) < 128)) (
                      .pure false) (
                      .br (decide (l_60.2.1 > 1114111)) (
                        .pure false) (
                        .br (decide (l_60.2.1 ≥ 55296)) (
                          .pure (!(decide ((IntKind.i64.wrap ((IntKind.i64.wrap (l_60.2.1 + l_60.2.2)) - 1)) ≤ 57343)))) (
                          .pure true)))))) (fun l_61 =>
                .pure l_61))) (
            .br (decide ((b0.length : Int) ≥ 3)) (
              .pure false) (
              .bnd (loopW (fun s => (ref01_begins_L17 s.1 s.2.1 s.2.2.1 s.2.2.2.1 s.2.2.2.2).run) (b0, 3, IntKind.i64.wrap ((IntKind.i64.wrap ((IntKind.i64.wrap x_1) - 224)) * 4096), 1, 1)) fun l_62 =>
              .alt (loopW (fun s => (ref01_begins_L21 s.1 s.2.1 s.2.2.1 s.2.2.2.1 s.2.2.2.2).run) (l_62.1, l_62.2.1, l_62.2.2.1, l_62.2.2.2, 1)) (fun l_63 =>
                .br (l_63.1 == 3) (
                  .br (l_63.1 == 4) (
                    .br (decide ((IntKind.i64.wrap ((IntKind.i64.wrap (l_63.2.1 + l_63.2.2)) - 1)) < 65536)) (
                      .pure false) (
                      .br (decide (l_63.2.1 > 1114111)) (
                        .pure false) (
                        .br (decide (l_63.2.1 ≥ 55296)) (
                          .pure (!(decide ((IntKind.i64.wrap ((IntKind.i64.wrap (l_63.2.1 + l_63.2.2)) - 1)) ≤ 57343)))) (
                          .pure true)))) (
                    .br (decide ((IntKind.i64.wrap ((IntKind.i64.wrap (l_63.2.1 + l_63.2.2)) - 1)) < 2048)) (
                      .pure false) (
                      .br (decide (l_63.2.1 > 1114111)) (
                        .pure false) (
                        .br (decide (l_63.2.1 ≥ 55296)) (
                          .pure (!(decide ((IntKind.i64.wrap ((IntKind.i64.wrap (l_63.2.1 + l_63.2.2)) - 1)) ≤ 57343)))) (
                          .pure true))))) (
                  .br (l_63.1 == 4) (
                    .br (decide ((IntKind.i64.wrap ((IntKind.i64.wrap (l_63.2.1 + l_63.2.2)) - 1)) < 65536)) (
                      .pure false) (
                      .br (decide (l_63.2.1 > 1114111)) (
                        .pure false) (
                        .br (decide (l_63.2.1 ≥ 55296)) (
                          .pure (!(decide ((IntKind.i64.wrap ((IntKind.i64.wrap (l_63.2.1 + l_63.2.2)) - 1)) ≤ 57343)))) (
                          .pure true)))) (
                    .br (decide ((IntKind.i64.wrap ((IntKind.i64.wrap (l_63.2.1 + l_63.2.2)) - 1)) < 128)) (
                      .pure false) (
                      .br (decide (l_63.2.1 > 1114111)) (
                        .pure false) (
                        .br (decide (l_63.2.1 ≥ 55296)) (
                          .pure (!(decide ((IntKind.i64.wrap ((IntKind.i64.wrap (l_63.2.1 + l_63.2.2)) - 1)) ≤ 57343)))) (
                          .pure true)))))) (fun l_64 =>
                .pure l_64)))) (
          .br (decide ((b0.length : Int) ≥ 3)) (
            .pure false) (
            .bnd (loopW (fun s => (ref01_begins_L17 s.1 s.2.1 s.2.2.1 s.2.2.2.1 s.2.2.2.2).run) (b0, 3, IntKind.i64.wrap ((IntKind.i64.wrap ((IntKind.i64.wrap x_1) - 224)) * 4096), 1, 1)) fun l_65 =>
            .alt (loopW (fun s => (ref01_begins_L21 s.1 s.2.1 s.2.2.1 s.2.2.2.1 s.2.2.2.2).run) (l_65.1, l_65.2.1, l_65.2.2.1, l_65.2.2.2, 1)) (fun l_66 =>
              .br (l_66.1 == 3) (
                .br (l_66.1 == 4) (
                  .br (decide ((IntKind.i64.wrap ((IntKind.i64.wrap (l_66.2.1 + l_66.2.2)) - 1)) < 65536)) (
                    .pure false) (
                    .br (decide (l_66.2.1 > 1114111)) (
                      .pure false) (
                      .br (decide (l_66.2.1 ≥ 55296)) (
                        .pure (!(decide ((IntKind.i64.wrap ((IntKind.i64.wrap (l_66.2.1 + l_66.2.2)) - 1)) ≤ 57343)))) (
                        .pure true)))) (
                  .br (decide ((IntKind.i64.wrap ((IntKind.i64.wrap (l_66.2.1 + l_66.2.2)) - 1)) < 2048)) (
                    .pure false) (
                    .br (decide (l_66.2.1 > 1114111)) (
                      .pure false) (
                      .br (decide (l_66.2.1 ≥ 55296)) (
                        .pure (!(decide ((IntKind.i64.wrap ((IntKind.i64.wrap (l_66.2.1 + l_66.2.2)) - 1)) ≤ 57343)))) (
                        .pure true))))) (
                .br (l_66.1 == 4) (
                  .br (decide ((IntKind.i64.wrap ((IntKind.i64.wrap (l_66.2.1 + l_66.2.2)) - 1)) < 65536)) (
                    .pure false) (
                    .br (decide (l_66.2.1 > 1114111)) (
                      .pure false) (
                      .br (decide (l_66.2.1 ≥ 55296)) (
                        .pure (!(decide ((IntKind.i64.wrap ((IntKind.i64.wrap (l_66.2.1 + l_66.2.2)) - 1)) ≤ 57343)))) (
                        .pure true)))) (
                  .br (decide ((IntKind.i64.wrap ((IntKind.i64.wrap (l_66.2.1 + l_66.2.2)) - 1)) < 128)) (
                    .pure false) (
                    .br (decide (l_66.2.1 > 1114111)) (
                      .pure false) (
                      .br (decide (l_66.2.1 ≥ 55296)) (
                        .pure (!(decide ((IntKind.i64.wrap ((IntKind.i64.wrap (l_66.2.1 + l_66.2.2)) - 1)) ≤ 57343)))) (
                        .pure true)))))) (fun l_67 =>
              .pure l_67)))) (
        .br (decide ((IntKind.i64.wrap x_1) ≥ 240)) (
          .br (decide ((IntKind.i64.wrap x_1) < 245)) (
            .br (decide ((b0.length : Int) ≥ 4)) (
              .pure false) (
              .bnd (loopW (fun s => (ref01_begins_L17 s.1 s.2.1 s.2.2.1 s.2.2.2.1 s.2.2.2.2).run) (b0, 4, IntKind.i64.wrap ((IntKind.i64.wrap ((IntKind.i64.wrap x_1) - 240)) * 262144), 1, 1)) fun l_68 =>
              .alt (loopW (fun s => (ref01_begins_L21 s.1 s.2.1 s.2.2.1 s.2.2.2.1 s.2.2.2.2).run) (l_68.1, l_68.2.1, l_68.2.2.1, l_68.2.2.2, 1)) (fun l_69 =>
                .br (l_69.1 == 3) (
                  .br (l_69.1 == 4) (
                    .br (decide ((IntKind.i64.wrap ((IntKind.i64.wrap (l_69.2.1 + l_69.2.2)) - 1)) < 65536)) (
                      .pure false) (
                      .br (decide (l_69.2.1 > 1114111)) (
                        .pure false) (
                        .br (decide (l_69.2.1 ≥ 55296)) (
                          .pure (!(decide ((IntKind.i64.wrap ((IntKind.i64.wrap (l_69.2.1 + l_69.2.2)) - 1)) ≤ 57343)))) (
                          .pure true)))) (
                    .br (decide ((IntKind.i64.wrap ((IntKind.i64.wrap (l_69.2.1 + l_69.2.2)) - 1)) < 2048)) (
                      .pure false) (
                      .br (decide (l_69.2.1 > 1114111)) (
                        .pure false) (
                        .br (decide (l_69.2.1 ≥ 55296)) (
                          .pure (!(decide ((IntKind.i64.wrap ((IntKind.i64.wrap (l_69.2.1 + l_69.2.2)) - 1)) ≤ 57343)))) (
                          .pure true))))) (
                  .br (l_69.1 == 4) (
                    .br (decide ((IntKind.i64.wrap ((IntKind.i64.wrap (l_69.2.1 + l_69.2.2)) - 1)) < 65536)) (
                      .pure false) (
                      .br (decide (l_69.2.1 > 1114111)) (
                        .pure false) (
                        .br (decide (l_69.2.1 ≥ 55296)) (
                          .pure (!(decide ((IntKind.i64.wrap ((IntKind.i64.wrap (l_69.2.1 + l_69.2.2)) - 1)) ≤ 57343)))) (
                          .pure true)))) (
                    .br (decide ((IntKind.i64.wrap ((IntKind.i64.wrap (l_69.2.1 + l_69.2.2)) - 1)) < 128)) (
                      .pure false) (
                      .br (decide (l_69.2.1 > 1114111)) (
                        .pure false) (
                        .br (decide (l_69.2.1 ≥ 55296)) (
                          .pure (!(decide ((IntKind.i64.wrap ((IntKind.i64.wrap (l_69.2.1 + l_69.2.2)) - 1)) ≤ 57343)))) (
                          .pure true)))))) (fun l_70 =>
                .pure l_70))) (
            .br (decide ((b0.length : Int) ≥ 0)) (
              .pure false) (
              .bnd (loopW (fun s => (ref01_begins_L17 s.1 s.2.1 s.2.2.1 s.2.2.2.1 s.2.2.2.2).run) (b0, 0, 0, 1, 1)) fun l_71 =>
              .alt (loopW (fun s => (ref01_begins_L21 s.1 s.2.1 s.2.2.1 s.2.2.2.1 s.2.2.2.2).run) (l_71.1, l_71.2.1, l_71.2.2.1, l_71.2.2.2, 1)) (fun l_72 =>
                .br (l_72.1 == 3) (
                  .br (l_72.1 == 4) (
                    .br (decide ((IntKind.i64.wrap ((IntKind.i64.wrap (l_72.2.1 + l_72.2.2)) - 1)) < 65536)) (
                      .pure false) (
                      .br (decide (l_72.2.1 > 1114111)) (
                        .pure false) (
                        .br (decide (l_72.2.1 ≥ 55296)) (
                          .pure (!(decide ((IntKind.i64.wrap ((IntKind.i64.wrap (l_72.2.1 + l_72.2.2)) - 1)) ≤ 57343)))) (
                          .pure true)))) (
                    .br (decide ((IntKind.i64.wrap ((IntKind.i64.wrap (l_72.2.1 + l_72.2.2)) - 1)) < 2048)) (
                      .pure false) (
                      .br (decide (l_72.2.1 > 1114111)) (
                        .pure false) (
                        .br (decide (l_72.2.1 ≥ 55296)) (
                          .pure (!(decide ((IntKind.i64.wrap ((IntKind.i64.wrap (l_72.2.1 + l_72.2.2)) - 1)) ≤ 57343)))) (
                          .pure true))))) (
                  .br (l_72.1 == 4) (
                    .br (decide ((IntKind.i64.wrap ((IntKind.i64.wrap (l_72.2.1 + l_72.2.2)) - 1)) < 65536)) (
                      .pure false) (
                      .br (decide (l_72.2.1 > 1114111)) (
                        .pure false) (
                        .br (decide (l_72.2.1 ≥ 55296)) (
                          .pure (!(decide ((IntKind.i64.wrap ((IntKind.i64.wrap (l_72.2.1 + l_72.2.2)) - 1)) ≤ 57343)))) (
                          .pure true)))) (
                    .br (decide ((IntKind.i64.wrap ((IntKind.i64.wrap (l_72.2.1 + l_72.2.2)) - 1)) < 128)) (
                      .pure false) (
                      .br (decide (l_72.2.1 > 1114111)) (
                        .pure false) (
                        .br (decide (l_72.2.1 ≥ 55296)) (
                          .pure (!(decide ((IntKind.i64.wrap ((IntKind.i64.wrap (l_72.2.1 + l_72.2.2)) - 1)) ≤ 57343)))) (
                          .pure true)))))) (fun l_73 =>
                .pure l_73)))) (
          .br (decide ((b0.length : Int) ≥ 0)) (
            .pure false) (
            .bnd (loopW (fun s => (ref01_begins_L17 s.1 s.2.1 s.2.2.1 s.2.2.2.1 s.2.2.2.2).run) (b0, 0, 0, 1, 1)) fun l_74 =>
            .alt (loopW (fun s => (ref01_begins_L21 s.1 s.2.1 s.2.2.1 s.2.2.2.1 s.2.2.2.2).run) (l_74.1, l_74.2.1, l_74.2.2.1, l_74.2.2.2, 1)) (fun l_75 =>
              .br (l_75.1 == 3) (
                .br (l_75.1 == 4) (
                  .br (decide ((IntKind.i64.wrap ((IntKind.i64.wrap (l_75.2.1 + l_75.2.2)) - 1)) < 65536)) (
                    .pure false) (
                    .br (decide (l_75.2.1 > 1114111)) (
                      .pure false) (
                      .br (decide (l_75.2.1 ≥ 55296)) (
                        .pure (!(decide ((IntKind.i64.wrap ((IntKind.i64.wrap (l_75.2.1 + l_75.2.2)) - 1)) ≤ 57343)))) (
                        .pure true)))) (
                  .br (decide ((IntKind.i64.wrap ((IntKind.i64.wrap (l_75.2.1 + l_75.2.2)) - 1)) < 2048)) (
                    .pure false) (
                    .br (decide (l_75.2.1 > 1114111)) (
                      .pure false) (
                      .br (decide (l_75.2.1 ≥ 55296)) (
                        .pure (!(decide ((IntKind.i64.wrap ((IntKind.i64.wrap (l_75.2.1 + l_75.2.2)) - 1)) ≤ 57343)))) (
                        .pure true))))) (
                .br (l_75.1 == 4) (
                  .br (decide ((IntKind.i64.wrap ((IntKind.i64.wrap (l_75.2.1 + l_75.2.2)) - 1)) < 65536)) (
                    .pure false) (
                    .br (decide (l_75.2.1 > 1114111)) (
                      .pure false) (
                      .br (decide (l_75.2.1 ≥ 55296)) (
                        .pure (!(decide ((IntKind.i64.wrap ((IntKind.i64.wrap (l_75.2.1 + l_75.2.2)) - 1)) ≤ 57343)))) (
                        .pure true)))) (
                  .br (decide ((IntKind.i64.wrap ((IntKind.i64.wrap (l_75.2.1 + l_75.2.2)) - 1)) < 128)) (
                    .pure false) (
                    .br (decide (l_75.2.1 > 1114111)) (
                      .pure false) (
                      .br (decide (l_75.2.1 ≥ 55296)) (
                        .pure (!(decide ((IntKind.i64.wrap ((IntKind.i64.wrap (l_75.2.1 + l_75.2.2)) - 1)) ≤ 57343)))) (
                        .pure true)))))) (fun l_76 =>
              .pure l_76))))) (
      .br (decide ((IntKind.i64.wrap x_1) ≥ 240)) (
        .br (decide ((IntKind.i64.wrap x_1) < 245)) (
          .br (decide ((b0.length : Int) ≥ 4)) (
            .pure false) (
            .bnd (loopW (fun s => (ref01_begins_L17 s.1 s.2.1 s.2.2.1 s.2.2.2.1 s.2.2.2.2).run) (b0, 4, IntKind.i64.wrap ((IntKind.i64.wrap ((IntKind.i64.wrap x_1) - 240)) * 262144), 1, 1)) fun l_77 =>
            .alt (loopW (fun s => (ref01_begins_L21 s.1 s.2.1 s.2.2.1 s.2.2.2.1 s.2.2.2.2).run) (l_77.1, l_77.2.1, l_77.2.2.1, l_77.2.2.2, 1)) (fun l_78 =>
              .br (l_78.1 == 3) (
                .br (l_78.1 == 4) (
                  .br (decide ((IntKind.i64.wrap ((IntKind.i64.wrap (l_78.2.1 + l_78.2.2)) - 1)) < 65536)) (
                    .pure false) (
                    .br (decide (l_78.2.1 > 1114111)) (
                      .pure false) (
                      .br (decide (l_78.2.1 ≥ 55296)) (
                        .pure (!(decide ((IntKind.i64.wrap ((IntKind.i64.wrap (l_78.2.1 + l_78.2.2)) - 1)) ≤ 57343)))) (
                        .pure true)))) (
                  .br (decide ((IntKind.i64.wrap ((IntKind.i64.wrap (l_78.2.1 + l_78.2.2)) - 1)) < 2048)) (
                    .pure false) (
                    .br (decide (l_78.2.1 > 1114111)) (
                      .pure false) (
                      .br (decide (l_78.2.1 ≥ 55296)) (
                        .pure (!(decide ((IntKind.i64.wrap ((IntKind.i64.wrap (l_78.2.1 + l_78.2.2)) - 1)) ≤ 57343)))) (
                        .pure true))))) (
                .br (l_78.1 == 4) (
                  .br (decide ((IntKind.i64.wrap ((IntKind.i64.wrap (l_78.2.1 + l_78.2.2)) - 1)) < 65536)) (
                    .pure false) (
                    .br (decide (l_78.2.1 > 1114111)) (
                      .pure false) (
                      .br (decide (l_78.2.1 ≥ 55296)) (
                        .pure (!(decide ((IntKind.i64.wrap ((IntKind.i64.wrap (l_78.2.1 + l_78.2.2)) - 1)) ≤ 57343)))) (
                        .pure true)))) (
                  .br (decide ((IntKind.i64.wrap ((IntKind.i64.wrap (l_78.2.1 + l_78.2.2)) - 1)) < 128)) (
                    .pure false) (
                    .br (decide (l_78.2.1 > 1114111)) (
                      .pure false) (
                      .br (decide (l_78.2.1 ≥ 55296)) (
                        .pure (!(decide ((IntKind.i64.wrap ((IntKind.i64.wrap (l_78.2.1 + l_78.2.2)) - 1)) ≤ 57343)))) (
                        .pure true)))))) (fun l_79 =>
              .pure l_79))) (
          .br (decide ((b0.length : Int) ≥ 0)) (
            .pure false) (
            .bnd (loopW (fun s => (ref01_begins_L17 s.1 s.2.1 s.2.2.1 s.2.2.2.1 s.2.2.2.2).run) (b0, 0, 0, 1, 1)) fun l_80 =>
            .alt (loopW (fun s => (ref01_begins_L21 s.1 s.2.1 s.2.2.1 s.2.2.2.1 s.2.2.2.2).run) (l_80.1, l_80.2.1, l_80.2.2.1, l_80.2.2.2, 1)) (fun l_81 =>
              .br (l_81.1 == 3) (
                .br (l_81.1 == 4) (
                  .br (decide ((IntKind.i64.wrap ((IntKind.i64.wrap (l_81.2.1 + l_81.2.2)) - 1)) < 65536)) (
                    .pure false) (
                    .br (decide (l_81.2.1 > 1114111)) (
                      .pure false) (
                      .br (decide (l_81.2.1 ≥ 55296)) (
                        .pure (!(decide ((IntKind.i64.wrap ((IntKind.i64.wrap (l_81.2.1 + l_81.2.2)) - 1)) ≤ 57343)))) (
                        .pure true)))) (
                  .br (decide ((IntKind.i64.wrap ((IntKind.i64.wrap (l_81.2.1 + l_81.2.2)) - 1)) < 2048)) (
                    .pure false) (
                    .br (decide (l_81.2.1 > 1114111)) (
                      .pure false) (
                      .br (decide (l_81.2.1 ≥ 55296)) (
                        .pure (!(decide ((IntKind.i64.wrap ((IntKind.i64.wrap (l_81.2.1 + l_81.2.2)) - 1)) ≤ 57343)))) (
                        .pure true))))) (
                .br (l_81.1 == 4) (
                  .br (decide ((IntKind.i64.wrap ((IntKind.i64.wrap (l_81.2.1 + l_81.2.2)) - 1)) < 65536)) (
                    .pure false) (
                    .br (decide (l_81.2.1 > 1114111)) (
                      .pure false) (
                      .br (decide (l_81.2.1 ≥ 55296)) (
                        .pure (!(decide ((IntKind.i64.wrap ((IntKind.i64.wrap (l_81.2.1 + l_81.2.2)) - 1)) ≤ 57343)))) (
                        .pure true)))) (
                  .br (decide ((IntKind.i64.wrap ((IntKind.i64.wrap (l_81.2.1 + l_81.2.2)) - 1)) < 128)) (
                    .pure false) (
                    .br (decide (l_81.2.1 > 1114111)) (
                      .pure false) (
                      .br (decide (l_81.2.1 ≥ 55296)) (
                        .pure (!(decide ((IntKind.i64.wrap ((IntKind.i64.wrap (l_81.2.1 + l_81.2.2)) - 1)) ≤ 57343)))) (
                        .pure true)))))) (fun l_82 =>
              .pure l_82)))) (
        .br (decide ((b0.length : Int) ≥ 0)) (
          .pure false) (
          .bnd (loopW (fun s => (ref01_begins_L17 s.1 s.2.1 s.2.2.1 s.2.2.2.1 s.2.2.2.2).run) (b0, 0, 0, 1, 1)) fun l_83 =>
          .alt (loopW (fun s => (ref01_begins_L21 s.1 s.2.1 s.2.2.1 s.2.2.2.1 s.2.2.2.2).run) (l_83.1, l_83.2.1, l_83.2.2.1, l_83.2.2.2, 1)) (fun l_84 =>
            .br (l_84.1 == 3) (
              .br (l_84.1 == 4) (
                .br (decide ((IntKind.i64.wrap ((IntKind.i64.wrap (l_84.2.1 + l_84.2.2)) - 1)) < 65536)) (
                  .pure false) (
                  .br (decide (l_84.2.1 > 1114111)) (
                    .pure false) (
                    .br (decide (l_84.2.1 ≥ 55296)) (
                      .pure (!(decide ((IntKind.i64.wrap ((IntKind.i64.wrap (l_84.2.1 + l_84.2.2)) - 1)) ≤ 57343)))) (
                      .pure true)))) (
                .br (decide ((IntKind.i64.wrap ((IntKind.i64.wrap (l_84.2.1 + l_84.2.2)) - 1)) < 2048)) (
                  .pure false) (
                  .br (decide (l_84.2.1 > 1114111)) (
                    .pure false) (
                    .br (decide (l_84.2.1 ≥ 55296)) (
                      .pure (!(decide ((IntKind.i64.wrap ((IntKind.i64.wrap (l_84.2.1 + l_84.2.2)) - 1)) ≤ 57343)))) (
                      .pure true))))) (
              .br (l_84.1 == 4) (
                .br (decide ((IntKind.i64.wrap ((IntKind.i64.wrap (l_84.2.1 + l_84.2.2)) - 1)) < 65536)) (
                  .pure false) (
                  .br (decide (l_84.2.1 > 1114111)) (
                    .pure false) (
                    .br (decide (l_84.2.1 ≥ 55296)) (
                      .pure (!(decide ((IntKind.i64.wrap ((IntKind.i64.wrap (l_84.2.1 + l_84.2.2)) - 1)) ≤ 57343)))) (
                      .pure true)))) (
                .br (decide ((IntKind.i64.wrap ((IntKind.i64.wrap (l_84.2.1 + l_84.2.2)) - 1)) < 128)) (
                  .pure false) (
                  .br (decide (l_84.2.1 > 1114111)) (
                    .pure false) (
                    .br (decide (l_84.2.1 ≥ 55296)) (
                      .pure (!(decide ((IntKind.i64.wrap ((IntKind.i64.wrap (l_84.2.1 + l_84.2.2)) - 1)) ≤ 57343)))) (
                      .pure true)))))) (fun l_85 =>
            .pure l_85)))))
noncomputable def ref01_begins_F (b0 : List Int) : Option Bool := (ref01_begins_T b0).run
def ref01_begins_L : List (Nat × LoopAnn) := [(17, { head := [.sv 0 false (.sl (.int .u8)), .sv 4 true (.int .i64), .sv 5 true (.int .i64), .sv 6 true (.int .i64), .sv 7 true (.int .i64)], xid := 0, out := [.sv 0 false (.sl (.int .u8)), .sv 4 true (.int .i64), .sv 5 true (.int .i64), .sv 6 true (.int .i64)], hasRet := false, res := [] }), (21, { head := [.sv 0 false (.sl (.int .u8)), .sv 4 true (.int .i64), .sv 5 true (.int .i64), .sv 6 true (.int .i64), .sv 8 true (.int .i64)], xid := 2, out := [.sv 4 true (.int .i64), .sv 5 true (.int .i64), .sv 6 true (.int .i64)], hasRet := true, res := [.sv 2 true .bool] })]
noncomputable def ref01_begins_C : List (Nat × Callee) := [(44, .plain ref01_tail_fun)]
noncomputable def ref01_begins_fun : Fun := ⟨[.sl (.int .u8)], [.v .bool], fun x => ref01_begins_F x.1⟩
theorem ref01_begins_ev (x : Tys.I [.sl (.int .u8)]) : evFun G0 (fun f => olook f ref01_begins_C) ⟨[], [], []⟩ (fun i => olook i ref01_begins_L) Try.f34 [.sl (.int .u8)] [.v .bool] x = ref01_begins_T x.1 := by kernel_rfl
theorem ref01_begins_ok : FunOk Try.prog 34 ref01_begins_fun := evFun_ok mixed ctx0 (cons_calls (fb := .plain ref01_tail_fun) ref01_tail_ok (fun h => by cases h) (no_calls)) Try.func34 (by kernel_rfl) _ (fun x => congrArg Tr.run (ref01_begins_ev x)) (by kernel_rfl) (by kernel_rfl)
/-! ### boustrophedon/boustrophedonref01.Next -/
noncomputable def ref01_Next_L4 (b0 : List Int) (at1 : Int) (n6 : Int) : Tr (Lap (List Int × Int × Int) (Sum (List Int × Int) (Int × Int))) :=
  .br (decide (n6 ≤ 4)) (
    .br (decide ((IntKind.i64.wrap (at1 + n6)) ≤ (b0.length : Int))) (
      .bnd (cut b0 at1 (IntKind.i64.wrap (at1 + n6))) fun r_1 =>
      .bnd (ref01_value_F r_1) fun c_2 =>
      .br (decide (c_2 ≥ 0)) (
        .pure (.done (.inr (c_2, n6)))) (
        .pure (.next (b0, at1, IntKind.i64.wrap (n6 + 1))))) (
      .pure (.done (.inl (b0, at1))))) (
    .pure (.done (.inl (b0, at1))))
noncomputable def ref01_Next_L10 (b0 : List Int) (at1 : Int) (n8 : Int) : Tr (Lap (List Int × Int × Int) Int) :=
  .br (decide (n8 < 3)) (
    .br (decide ((IntKind.i64.wrap ((IntKind.i64.wrap (at1 + n8)) + 1)) ≤ (b0.length : Int))) (
      .bnd (cut b0 at1 (IntKind.i64.wrap ((IntKind.i64.wrap (at1 + n8)) + 1))) fun r_4 =>
      .bnd (ref01_begins_F r_4) fun c_5 =>
      .br c_5 (
        .pure (.next (b0, at1, IntKind.i64.wrap (n8 + 1)))) (
        .pure (.done n8))) (
      .pure (.done n8))) (
    .pure (.done n8))
noncomputable def ref01_Next_T (b0 : List Int) (at1 : Int) : Tr (Int × Int) :=
  .br (decide (at1 < 0)) (
    .pure (0, 0)) (
    .br (decide (at1 ≥ (b0.length : Int))) (
      .pure (0, 0)) (
      .alt (loopW (fun s => (ref01_Next_L4 s.1 s.2.1 s.2.2).run) (b0, at1, 1)) (fun l_3 =>
        .bnd (loopW (fun s => (ref01_Next_L10 s.1 s.2.1 s.2.2).run) (l_3.1, l_3.2, 1)) fun l_6 =>
        .pure (65533, l_6)) (fun l_7 =>
        .pure (l_7.1, l_7.2))))
noncomputable def ref01_Next_F (b0 : List Int) (at1 : Int) : Option (Int × Int) := (ref01_Next_T b0 at1).run
def ref01_Next_L : List (Nat × LoopAnn) := [(4, { head := [.sv 0 false (.sl (.int .u8)), .sv 1 false (.int .i64), .sv 6 true (.int .i64)], xid := 0, out := [.sv 0 false (.sl (.int .u8)), .sv 1 false (.int .i64)], hasRet := true, res := [.sv 4 true (.int .i64), .sv 5 true (.int .i64)] }), (10, { head := [.sv 0 false (.sl (.int .u8)), .sv 1 false (.int .i64), .sv 8 true (.int .i64)], xid := 2, out := [.sv 8 true (.int .i64)], hasRet := false, res := [] })]
noncomputable def ref01_Next_C : List (Nat × Callee) := [(33, .plain ref01_value_fun), (34, .plain ref01_begins_fun)]
noncomputable def ref01_Next_fun : Fun := ⟨[.sl (.int .u8), .int .i64], [.v (.int .i64), .v (.int .i64)], fun x => ref01_Next_F x.1 x.2.1⟩
theorem ref01_Next_ev (x : Tys.I [.sl (.int .u8), .int .i64]) : evFun G0 (fun f => olook f ref01_Next_C) ⟨[], [], []⟩ (fun i => olook i ref01_Next_L) Try.f17 [.sl (.int .u8), .int .i64] [.v (.int .i64), .v (.int .i64)] x = ref01_Next_T x.1 x.2.1 := by kernel_rfl
theorem ref01_Next_ok : FunOk Try.prog 17 ref01_Next_fun := evFun_ok mixed ctx0 (cons_calls (fb := .plain ref01_value_fun) ref01_value_ok (fun h => by cases h) (cons_calls (fb := .plain ref01_begins_fun) ref01_begins_ok (fun h => by cases h) (no_calls))) Try.func17 (by kernel_rfl) _ (fun x => congrArg Tr.run (ref01_Next_ev x)) (by kernel_rfl) (by kernel_rfl)
/-! ### boustrophedon/boustrophedonlaw01.UtfReads -/
noncomputable def law01_UtfReads_L9 (b0 : List Int) (rs9 : List Int) (starts10 : List Int) (k11 : Int) (i12 : Int) : Tr (Lap (List Int × List Int × List Int × Int × Int) (Sum (List Int × List Int × Int) Bool)) :=
  .br (decide (k11 < (b0.length : Int))) (
    .bnd (ref01_Next_F b0 k11) fun c_5 =>
    .br (decide (i12 ≥ (rs9.length : Int))) (
      .pure (.done (.inr false))) (
      .br (decide (i12 ≥ (starts10.length : Int))) (
        .pure (.done (.inr false))) (
        .bnd (idx rs9 i12) fun x_6 =>
        .br ((IntKind.i64.wrap x_6) != c_5.1) (
          .pure (.done (.inr false))) (
          .bnd (idx starts10 i12) fun x_7 =>
          .br (x_7 != k11) (
            .pure (.done (.inr false))) (
            .br (decide (c_5.2 < 1)) (
              .pure (.done (.inr false))) (
              .pure (.next (b0, rs9, starts10, IntKind.i64.wrap (k11 + c_5.2), IntKind.i64.wrap (i12 + 1))))))))) (
    .pure (.done (.inl (rs9, starts10, i12))))
noncomputable def law01_UtfReads_T (b0 : List Int) (at1 : Int) : Tr Bool :=
  .bnd law01_awake_F fun c_1 =>
  .br (!c_1) (
    .pure false) (
    .bnd (utf_Next_F b0 at1) fun c_2 =>
    .bnd (ref01_Next_F b0 at1) fun c_3 =>
    .br ((IntKind.i64.wrap c_2.1) != c_3.1) (
      .pure false) (
      .br (c_2.2 != c_3.2) (
        .pure false) (
        .bnd (utf_Decode_F b0) fun c_4 =>
        .alt (loopW (fun s => (law01_UtfReads_L9 s.1 s.2.1 s.2.2.1 s.2.2.2.1 s.2.2.2.2).run) (b0, c_4.1, c_4.2, 0, 0)) (fun l_8 =>
          .br (l_8.2.2 == (l_8.1.length : Int)) (
            .pure (l_8.2.2 == (l_8.2.1.length : Int))) (
            .pure false)) (fun l_9 =>
          .pure l_9))))
noncomputable def law01_UtfReads_F (b0 : List Int) (at1 : Int) : Option Bool := (law01_UtfReads_T b0 at1).run
def law01_UtfReads_L : List (Nat × LoopAnn) := [(9, { head := [.sv 0 false (.sl (.int .u8)), .srow 9 1000009 21 true (.int .i32), .srow 10 1000010 3 true (.int .i64), .sv 11 true (.int .i64), .sv 12 true (.int .i64)], xid := 0, out := [.srow 9 1000009 21 true (.int .i32), .srow 10 1000010 3 true (.int .i64), .sv 12 true (.int .i64)], hasRet := true, res := [.sv 4 true .bool] })]
noncomputable def law01_UtfReads_C : List (Nat × Callee) := [(15, .plain law01_awake_fun), (16, .plain utf_Next_fun), (17, .plain ref01_Next_fun), (18, .plain utf_Decode_fun)]
noncomputable def law01_UtfReads_fun : Fun := ⟨[.sl (.int .u8), .int .i64], [.v .bool], fun x => law01_UtfReads_F x.1 x.2.1⟩
theorem law01_UtfReads_ev (x : Tys.I [.sl (.int .u8), .int .i64]) : evFun G0 (fun f => olook f law01_UtfReads_C) ⟨[], [], []⟩ (fun i => olook i law01_UtfReads_L) Try.f3 [.sl (.int .u8), .int .i64] [.v .bool] x = law01_UtfReads_T x.1 x.2.1 := by kernel_rfl
theorem law01_UtfReads_ok : FunOk Try.prog 3 law01_UtfReads_fun := evFun_ok mixed ctx0 (cons_calls (fb := .plain law01_awake_fun) law01_awake_ok (fun h => by cases h) (cons_calls (fb := .plain utf_Next_fun) utf_Next_ok (fun h => by cases h) (cons_calls (fb := .plain ref01_Next_fun) ref01_Next_ok (fun h => by cases h) (cons_calls (fb := .plain utf_Decode_fun) utf_Decode_ok (fun h => by cases h) (no_calls))))) Try.func3 (by kernel_rfl) _ (fun x => congrArg Tr.run (law01_UtfReads_ev x)) (by kernel_rfl) (by kernel_rfl)
/-! ### boustrophedon/utf.Scalar -/
noncomputable def utf_Scalar_T (r0 : Int) : Tr Bool :=
  .br (decide (0 ≤ r0)) (
    .br (decide (r0 < 55296)) (
      .pure true) (
      .br (decide (57343 < r0)) (
        .pure (decide (r0 ≤ 1114111))) (
        .pure false))) (
    .br (decide (57343 < r0)) (
      .pure (decide (r0 ≤ 1114111))) (
      .pure false))
noncomputable def utf_Scalar_F (r0 : Int) : Option Bool := (utf_Scalar_T r0).run
def utf_Scalar_L : List (Nat × LoopAnn) := []
noncomputable def utf_Scalar_C : List (Nat × Callee) := []
noncomputable def utf_Scalar_fun : Fun := ⟨[.int .i32], [.v .bool], fun x => utf_Scalar_F x.1⟩
theorem utf_Scalar_ev (x : Tys.I [.int .i32]) : evFun G0 (fun f => olook f utf_Scalar_C) ⟨[], [], []⟩ (fun i => olook i utf_Scalar_L) Try.f23 [.int .i32] [.v .bool] x = utf_Scalar_T x.1 := by kernel_rfl
theorem utf_Scalar_ok : FunOk Try.prog 23 utf_Scalar_fun := evFun_ok mixed ctx0 (no_calls) Try.func23 (by kernel_rfl) _ (fun x => congrArg Tr.run (utf_Scalar_ev x)) (by kernel_rfl) (by kernel_rfl)
/-! ### boustrophedon/boustrophedonlaw01.UtfCover -/
noncomputable def law01_UtfCover_L7 (b0 : List Int) (rs3 : List Int) (at4 : List Int) (k5 : Int) : Tr (Lap (List Int × List Int × List Int × Int) (Sum Unit Bool)) :=
  .br (decide (k5 < (at4.length : Int))) (
    .br (decide ((IntKind.i64.wrap (k5 + 1)) < (at4.length : Int))) (
      .bnd (idx at4 (IntKind.i64.wrap (k5 + 1))) fun x_4 =>
      .bnd (idx at4 k5) fun x_5 =>
      .bnd (utf_Next_F b0 x_5) fun c_6 =>
      .bnd (idx rs3 k5) fun x_7 =>
      .br (c_6.1 != x_7) (
        .pure (.done (.inr false))) (
        .bnd (idx at4 k5) fun x_8 =>
        .br (c_6.2 != (IntKind.i64.wrap (x_4 - x_8))) (
          .pure (.done (.inr false))) (
          .br (decide (c_6.2 < 1)) (
            .pure (.done (.inr false))) (
            .br (decide (c_6.2 > 4)) (
              .pure (.done (.inr false))) (
              .bnd (utf_Scalar_F c_6.1) fun c_9 =>
              .br (!c_9) (
                .pure (.done (.inr false))) (
                .pure (.next (b0, rs3, at4, IntKind.i64.wrap (k5 + 1))))))))) (
      .bnd (idx at4 k5) fun x_10 =>
      .bnd (utf_Next_F b0 x_10) fun c_11 =>
      .bnd (idx rs3 k5) fun x_12 =>
      .br (c_11.1 != x_12) (
        .pure (.done (.inr false))) (
        .bnd (idx at4 k5) fun x_13 =>
        .br (c_11.2 != (IntKind.i64.wrap ((b0.length : Int) - x_13))) (
          .pure (.done (.inr false))) (
          .br (decide (c_11.2 < 1)) (
            .pure (.done (.inr false))) (
            .br (decide (c_11.2 > 4)) (
              .pure (.done (.inr false))) (
              .bnd (utf_Scalar_F c_11.1) fun c_14 =>
              .br (!c_14) (
                .pure (.done (.inr false))) (
                .pure (.next (b0, rs3, at4, IntKind.i64.wrap (k5 + 1)))))))))) (
    .pure (.done (.inl ())))
noncomputable def law01_UtfCover_T (b0 : List Int) : Tr Bool :=
  .bnd law01_awake_F fun c_1 =>
  .br (!c_1) (
    .pure false) (
    .bnd (utf_Decode_F b0) fun c_2 =>
    .br ((c_2.1.length : Int) != (c_2.2.length : Int)) (
      .pure false) (
      .br (decide ((b0.length : Int) > 0)) (
        .br ((c_2.2.length : Int) == 0) (
          .pure false) (
          .bnd (idx c_2.2 0) fun x_3 =>
          .br (x_3 != 0) (
            .pure false) (
            .alt (loopW (fun s => (law01_UtfCover_L7 s.1 s.2.1 s.2.2.1 s.2.2.2).run) (b0, c_2.1, c_2.2, 0)) (fun l_15 =>
              .pure true) (fun l_16 =>
              .pure l_16)))) (
        .alt (loopW (fun s => (law01_UtfCover_L7 s.1 s.2.1 s.2.2.1 s.2.2.2).run) (b0, c_2.1, c_2.2, 0)) (fun l_17 =>
          .pure true) (fun l_18 =>
          .pure l_18))))
noncomputable def law01_UtfCover_F (b0 : List Int) : Option Bool := (law01_UtfCover_T b0).run
def law01_UtfCover_L : List (Nat × LoopAnn) := [(7, { head := [.sv 0 false (.sl (.int .u8)), .srow 3 1000003 21 true (.int .i32), .srow 4 1000004 3 true (.int .i64), .sv 5 true (.int .i64)], xid := 0, out := [], hasRet := true, res := [.sv 2 true .bool] })]
noncomputable def law01_UtfCover_C : List (Nat × Callee) := [(15, .plain law01_awake_fun), (18, .plain utf_Decode_fun), (16, .plain utf_Next_fun), (23, .plain utf_Scalar_fun)]
noncomputable def law01_UtfCover_fun : Fun := ⟨[.sl (.int .u8)], [.v .bool], fun x => law01_UtfCover_F x.1⟩
theorem law01_UtfCover_ev (x : Tys.I [.sl (.int .u8)]) : evFun G0 (fun f => olook f law01_UtfCover_C) ⟨[], [], []⟩ (fun i => olook i law01_UtfCover_L) Try.f8 [.sl (.int .u8)] [.v .bool] x = law01_UtfCover_T x.1 := by kernel_rfl
theorem law01_UtfCover_ok : FunOk Try.prog 8 law01_UtfCover_fun := evFun_ok mixed ctx0 (cons_calls (fb := .plain law01_awake_fun) law01_awake_ok (fun h => by cases h) (cons_calls (fb := .plain utf_Decode_fun) utf_Decode_ok (fun h => by cases h) (cons_calls (fb := .plain utf_Next_fun) utf_Next_ok (fun h => by cases h) (cons_calls (fb := .plain utf_Scalar_fun) utf_Scalar_ok (fun h => by cases h) (no_calls))))) Try.func8 (by kernel_rfl) _ (fun x => congrArg Tr.run (law01_UtfCover_ev x)) (by kernel_rfl) (by kernel_rfl)
end Go.Proofs.Ytbldbneianlolaa
