/-
  The plain readings of the functions of this seat, by program; each is tied to the loaded function.
-/
import Derived.Test.YtecknolpakmlpaaEvErr
import Derived.Test.YtecknolpakmlpaaChecked
namespace Go.Proofs.Ytecknolpakmlpaa
set_option maxRecDepth 100000
set_option linter.unusedVariables false

def G0 : Ctx := { ty := [(3, .int .i64), (4, .bool), (5, .int .u8), (9, .str), (21, .int .i32), (22, .sl (.int .i32)), (24, .sl (.int .u8)), (31, .sl (.int .i64))], sls := [(22, ⟨21, .int .i32, 35184372088832⟩), (24, ⟨5, .int .u8, 140737488355328⟩), (31, ⟨3, .int .i64, 17592186044416⟩)], eqs := [], enos := [] }
theorem mixed : Try.prog.follows .mixedOrders = true := by kernel_rfl
theorem ctx0 : CtxOk Try.prog G0 := ctx_ok (by kernel_rfl)
theorem no_calls {Λ : List Nat} : ∀ f fa, olook f ([] : List (Nat × Callee)) = some fa → CalleeOk Try.prog f fa ∧ (fa.isPlain = false → inList f Λ = true) := fun _ _ h => by cases h
theorem cons_calls {Λ : List Nat} {k : Nat} {fb : Callee} {l : List (Nat × Callee)} (h : CalleeOk Try.prog k fb) (hi : fb.isPlain = false → inList k Λ = true) (hl : ∀ f fa, olook f l = some fa → CalleeOk Try.prog f fa ∧ (fa.isPlain = false → inList f Λ = true)) : ∀ f fa, olook f ((k, fb) :: l) = some fa → CalleeOk Try.prog f fa ∧ (fa.isPlain = false → inList f Λ = true) := by
  intro f fa hf
  rw [olook_cons] at hf
  split at hf
  · rename_i e; subst e; cases hf; exact ⟨h, hi⟩
  · exact hl f fa hf

/-! ### boustrophedon/utf.lead -/
noncomputable def utf_lead_T (b0 : Int) : Tr (Int × Int × Int) :=
  .br (decide (b0 < 128)) (
    .pure (1, 0, 0)) (
    .br (decide (b0 < 194)) (
      .pure (0, 0, 0)) (
      .br (decide (b0 < 224)) (
        .pure (2, 128, 191)) (
        .br (b0 == 224) (
          .pure (3, 160, 191)) (
          .br (b0 == 237) (
            .pure (3, 128, 159)) (
            .br (decide (b0 < 240)) (
              .pure (3, 128, 191)) (
              .br (b0 == 240) (
                .pure (4, 144, 191)) (
                .br (decide (b0 < 244)) (
                  .pure (4, 128, 191)) (
                  .br (b0 == 244) (
                    .pure (4, 128, 143)) (
                    .pure (0, 0, 0))))))))))
noncomputable def utf_lead_F (b0 : Int) : Option (Int × Int × Int) := (utf_lead_T b0).run
def utf_lead_L : List (Nat × LoopAnn) := []
noncomputable def utf_lead_C : List (Nat × Callee) := []
noncomputable def utf_lead_fun : Fun := ⟨[.int .u8], [.v (.int .i64), .v (.int .u8), .v (.int .u8)], fun x => utf_lead_F x.1⟩
theorem utf_lead_ev (x : Tys.I [.int .u8]) : evFun G0 (fun f => olook f utf_lead_C) ⟨[], [], [], [], [], []⟩ (fun i => olook i utf_lead_L) Try.f19 [.int .u8] [.v (.int .i64), .v (.int .u8), .v (.int .u8)] x = utf_lead_T x.1 := by kernel_rfl
theorem utf_lead_ok : FunOk Try.prog 19 utf_lead_fun := evFun_ok mixed ctx0 (no_calls) Try.func19 (by kernel_rfl) _ (fun x => congrArg Tr.run (utf_lead_ev x)) (by kernel_rfl) (by kernel_rfl)
/-! ### boustrophedon/utf.read -/
noncomputable def utf_read_L10 (b0 : List Int) (at1 : Int) (size7 : Int) (lo8 : Int) (hi9 : Int) (r10 : Int) (i11 : Int) : Tr (Lap (List Int × Int × Int × Int × Int × Int × Int) (Sum (Int × Int) (Int × Int × Bool))) :=
  .br (decide (i11 < size7)) (
    .br (decide (i11 ≥ (IntKind.i64.wrap ((b0.length : Int) - at1)))) (
      .pure (.done (.inr (65533, i11, false)))) (
      .bnd (idx b0 (IntKind.i64.wrap (at1 + i11))) fun x_5 =>
      .br (decide (x_5 < lo8)) (
        .pure (.done (.inr (65533, i11, false)))) (
        .bnd (idx b0 (IntKind.i64.wrap (at1 + i11))) fun x_6 =>
        .br (decide (x_6 > hi9)) (
          .pure (.done (.inr (65533, i11, false)))) (
          .bnd (idx b0 (IntKind.i64.wrap (at1 + i11))) fun x_7 =>
          .pure (.next (b0, at1, size7, 128, 191, ibits .or .i32 (shiftBy .shl .i32 r10 6) (IntKind.i32.wrap (ibits .and .u8 x_7 63)), IntKind.i64.wrap (i11 + 1))))))) (
    .pure (.done (.inl (size7, r10))))
noncomputable def utf_read_T (b0 : List Int) (at1 : Int) : Tr (Int × Int × Bool) :=
  .br (decide (at1 < 0)) (
    .pure (0, 0, false)) (
    .br (decide (at1 ≥ (b0.length : Int))) (
      .pure (0, 0, false)) (
      .bnd (idx b0 at1) fun x_1 =>
      .bnd (utf_lead_F x_1) fun c_2 =>
      .br (c_2.1 == 0) (
        .pure (65533, 1, false)) (
        .br (c_2.1 == 1) (
          .bnd (idx b0 at1) fun x_3 =>
          .pure (IntKind.i32.wrap x_3, 1, true)) (
          .bnd (idx b0 at1) fun x_4 =>
          .br (decide (0 ≤ c_2.1)) (
            .alt (loopW (fun s => (utf_read_L10 s.1 s.2.1 s.2.2.1 s.2.2.2.1 s.2.2.2.2.1 s.2.2.2.2.2.1 s.2.2.2.2.2.2).run) (b0, at1, c_2.1, c_2.2.1, c_2.2.2, IntKind.i32.wrap (ibits .and .u8 x_4 (shiftBy .shr .u8 127 c_2.1)), 1)) (fun l_8 =>
              .pure (l_8.2, l_8.1, true)) (fun l_9 =>
              .pure (l_9.1, l_9.2.1, l_9.2.2))) (
            .fail)))))
noncomputable def utf_read_F (b0 : List Int) (at1 : Int) : Option (Int × Int × Bool) := (utf_read_T b0 at1).run
def utf_read_L : List (Nat × LoopAnn) := [(10, { head := [.sv 0 false (.sl (.int .u8)), .sv 1 false (.int .i64), .sv 7 true (.int .i64), .sv 8 true (.int .u8), .sv 9 true (.int .u8), .sv 10 true (.int .i32), .sv 11 true (.int .i64)], xid := 0, out := [.sv 7 true (.int .i64), .sv 10 true (.int .i32)], hasRet := true, res := [.sv 4 true (.int .i32), .sv 5 true (.int .i64), .sv 6 true .bool] })]
noncomputable def utf_read_C : List (Nat × Callee) := [(19, .plain utf_lead_fun)]
noncomputable def utf_read_fun : Fun := ⟨[.sl (.int .u8), .int .i64], [.v (.int .i32), .v (.int .i64), .v .bool], fun x => utf_read_F x.1 x.2.1⟩
theorem utf_read_ev (x : Tys.I [.sl (.int .u8), .int .i64]) : evFun G0 (fun f => olook f utf_read_C) ⟨[], [], [], [], [], []⟩ (fun i => olook i utf_read_L) Try.f17 [.sl (.int .u8), .int .i64] [.v (.int .i32), .v (.int .i64), .v .bool] x = utf_read_T x.1 x.2.1 := by kernel_rfl
theorem utf_read_ok : FunOk Try.prog 17 utf_read_fun := evFun_ok mixed ctx0 (cons_calls (fb := .plain utf_lead_fun) utf_lead_ok (fun h => by cases h) (no_calls)) Try.func17 (by kernel_rfl) _ (fun x => congrArg Tr.run (utf_read_ev x)) (by kernel_rfl) (by kernel_rfl)
/-! ### boustrophedon/utf.Next -/
noncomputable def utf_Next_T (b0 : List Int) (at1 : Int) : Tr (Int × Int) :=
  .bnd (utf_read_F b0 at1) fun c_1 =>
  .pure (c_1.1, c_1.2.1)
noncomputable def utf_Next_F (b0 : List Int) (at1 : Int) : Option (Int × Int) := (utf_Next_T b0 at1).run
def utf_Next_L : List (Nat × LoopAnn) := []
noncomputable def utf_Next_C : List (Nat × Callee) := [(17, .plain utf_read_fun)]
noncomputable def utf_Next_fun : Fun := ⟨[.sl (.int .u8), .int .i64], [.v (.int .i32), .v (.int .i64)], fun x => utf_Next_F x.1 x.2.1⟩
theorem utf_Next_ev (x : Tys.I [.sl (.int .u8), .int .i64]) : evFun G0 (fun f => olook f utf_Next_C) ⟨[], [], [], [], [], []⟩ (fun i => olook i utf_Next_L) Try.f15 [.sl (.int .u8), .int .i64] [.v (.int .i32), .v (.int .i64)] x = utf_Next_T x.1 x.2.1 := by kernel_rfl
theorem utf_Next_ok : FunOk Try.prog 15 utf_Next_fun := evFun_ok mixed ctx0 (cons_calls (fb := .plain utf_read_fun) utf_read_ok (fun h => by cases h) (no_calls)) Try.func15 (by kernel_rfl) _ (fun x => congrArg Tr.run (utf_Next_ev x)) (by kernel_rfl) (by kernel_rfl)
/-! ### boustrophedon/utf.Decode -/
noncomputable def utf_Decode_L4 (b0 : List Int) (rs4 : List Int) (starts5 : List Int) (at6 : Int) : Tr (Lap (List Int × List Int × List Int × Int) (List Int × List Int)) :=
  .br (decide (at6 < (b0.length : Int))) (
    .bnd (utf_Next_F b0 at6) fun c_1 =>
    .bnd (app 35184372088832 rs4 ([c_1.1])) fun r_2 =>
    .bnd (app 17592186044416 starts5 ([at6])) fun r_3 =>
    .pure (.next (b0, r_2, r_3, IntKind.i64.wrap (at6 + c_1.2)))) (
    .pure (.done (rs4, starts5)))
noncomputable def utf_Decode_T (b0 : List Int) : Tr (List Int × List Int) :=
  .bnd (loopW (fun s => (utf_Decode_L4 s.1 s.2.1 s.2.2.1 s.2.2.2).run) (b0, [], [], 0)) fun l_4 =>
  .pure (l_4.1, l_4.2)
noncomputable def utf_Decode_F (b0 : List Int) : Option (List Int × List Int) := (utf_Decode_T b0).run
def utf_Decode_L : List (Nat × LoopAnn) := [(4, { head := [.sv 0 false (.sl (.int .u8)), .srow 4 1000004 21 true (.int .i32), .srow 5 1000005 3 true (.int .i64), .sv 6 true (.int .i64)], xid := 0, out := [.srow 4 1000004 21 true (.int .i32), .srow 5 1000005 3 true (.int .i64)], hasRet := false, res := [] })]
noncomputable def utf_Decode_C : List (Nat × Callee) := [(15, .plain utf_Next_fun)]
noncomputable def utf_Decode_fun : Fun := ⟨[.sl (.int .u8)], [.row 21 (.int .i32), .row 3 (.int .i64)], fun x => utf_Decode_F x.1⟩
theorem utf_Decode_ev (x : Tys.I [.sl (.int .u8)]) : evFun G0 (fun f => olook f utf_Decode_C) ⟨[], [], [], [], [], []⟩ (fun i => olook i utf_Decode_L) Try.f13 [.sl (.int .u8)] [.row 21 (.int .i32), .row 3 (.int .i64)] x = utf_Decode_T x.1 := by kernel_rfl
theorem utf_Decode_ok : FunOk Try.prog 13 utf_Decode_fun := evFun_ok mixed ctx0 (cons_calls (fb := .plain utf_Next_fun) utf_Next_ok (fun h => by cases h) (no_calls)) Try.func13 (by kernel_rfl) _ (fun x => congrArg Tr.run (utf_Decode_ev x)) (by kernel_rfl) (by kernel_rfl)
/-! ### boustrophedon/boustrophedonlaw01.awake -/
noncomputable def law01_awake_T : Tr Bool :=
  .bnd (utf_Next_F ([226, 130, 65]) 0) fun c_1 =>
  .bnd (utf_Next_F ([240, 128, 128, 128]) 0) fun c_2 =>
  .bnd (utf_Next_F ([237, 160, 128]) 0) fun c_3 =>
  .bnd (utf_Decode_F ([97, 195, 169, 255])) fun c_4 =>
  .br (c_1.1 == 65533) (
    .br (c_1.2 == 2) (
      .br (c_2.1 == 65533) (
        .br (c_2.2 == 1) (
          .br (c_3.1 == 65533) (
            .br (c_3.2 == 1) (
              .br ((c_4.1.length : Int) == 3) (
                .bnd (idx c_4.1 1) fun x_5 =>
                .br (x_5 == 233) (
                  .bnd (idx c_4.1 2) fun x_6 =>
                  .br (x_6 == 65533) (
                    .br ((c_4.2.length : Int) == 3) (
                      .bnd (idx c_4.2 2) fun x_7 =>
                      .pure (x_7 == 3)) (
                      .pure false)) (
                    .pure false)) (
                  .pure false)) (
                .pure false)) (
              .pure false)) (
            .pure false)) (
          .pure false)) (
        .pure false)) (
      .pure false)) (
    .pure false)
noncomputable def law01_awake_F : Option Bool := (law01_awake_T).run
def law01_awake_L : List (Nat × LoopAnn) := []
noncomputable def law01_awake_C : List (Nat × Callee) := [(15, .plain utf_Next_fun), (13, .plain utf_Decode_fun)]
noncomputable def law01_awake_fun : Fun := ⟨[], [.v .bool], fun _ => law01_awake_F⟩
theorem law01_awake_ev (x : Tys.I []) : evFun G0 (fun f => olook f law01_awake_C) ⟨[], [], [], [], [], []⟩ (fun i => olook i law01_awake_L) Try.f7 [] [.v .bool] x = law01_awake_T := by kernel_rfl
theorem law01_awake_ok : FunOk Try.prog 7 law01_awake_fun := evFun_ok mixed ctx0 (cons_calls (fb := .plain utf_Next_fun) utf_Next_ok (fun h => by cases h) (cons_calls (fb := .plain utf_Decode_fun) utf_Decode_ok (fun h => by cases h) (no_calls))) Try.func7 (by kernel_rfl) _ (fun x => congrArg Tr.run (law01_awake_ev x)) (by kernel_rfl) (by kernel_rfl)
/-! ### boustrophedon/boustrophedonref01.Bytes -/
noncomputable def ref01_Bytes_L13 (r0 : Int) (n4 : Int) (by5 : Int) (k6 : Int) : Tr (Lap (Int × Int × Int × Int) (Int × Int × Int)) :=
  .br (decide (k6 < n4)) (
    .pure (.next (r0, n4, IntKind.i64.wrap (by5 * 64), IntKind.i64.wrap (k6 + 1)))) (
    .pure (.done (r0, n4, by5)))
noncomputable def ref01_Bytes_L22 (r0 : Int) (out3 : List Int) (by5 : Int) : Tr (Lap (Int × List Int × Int) (List Int)) :=
  .br (decide (by5 > 1)) (
    .br ((IntKind.i64.wrap (by5.tdiv 64)) != 0) (
      .bnd (app 140737488355328 out3 ([IntKind.u8.wrap (IntKind.i64.wrap (128 + ((IntKind.i64.wrap (r0.tdiv (IntKind.i64.wrap (by5.tdiv 64)))).tmod 64)))])) fun r_4 =>
      .pure (.next (r0, r_4, IntKind.i64.wrap (by5.tdiv 64)))) (
      .fail)) (
    .pure (.done out3))
noncomputable def ref01_Bytes_T (r0 : Int) : Tr (List Int) :=
  .bnd (Tr.run (
    .br (decide (r0 < 0)) (
      .pure (r0, true)) (
      .br (decide (r0 > 1114111)) (
        .pure (r0, true)) (
        .br (decide (r0 ≥ 55296)) (
          .pure (r0, decide (r0 ≤ 57343))) (
          .pure (r0, false)))) : Tr (Int × Bool))) fun j_1 =>
  .br j_1.2 (
    .br (decide (65533 < 128)) (
      .pure ([IntKind.u8.wrap 65533])) (
      .br (decide (65533 ≥ 2048)) (
        .br (decide (65533 ≥ 65536)) (
          .bnd (loopW (fun s => (ref01_Bytes_L13 s.1 s.2.1 s.2.2.1 s.2.2.2).run) (65533, 4, 1, 1)) fun l_2 =>
          .br (l_2.2.1 == 3) (
            .br (l_2.2.1 == 4) (
              .br (l_2.2.2 != 0) (
                .bnd (app 140737488355328 [] ([IntKind.u8.wrap (IntKind.i64.wrap (240 + (IntKind.i64.wrap (l_2.1.tdiv l_2.2.2))))])) fun r_3 =>
                .bnd (loopW (fun s => (ref01_Bytes_L22 s.1 s.2.1 s.2.2).run) (l_2.1, r_3, l_2.2.2)) fun l_5 =>
                .pure l_5) (
                .fail)) (
              .br (l_2.2.2 != 0) (
                .bnd (app 140737488355328 [] ([IntKind.u8.wrap (IntKind.i64.wrap (224 + (IntKind.i64.wrap (l_2.1.tdiv l_2.2.2))))])) fun r_6 =>
                .bnd (loopW (fun s => (ref01_Bytes_L22 s.1 s.2.1 s.2.2).run) (l_2.1, r_6, l_2.2.2)) fun l_7 =>
                .pure l_7) (
                .fail))) (
            .br (l_2.2.1 == 4) (
              .br (l_2.2.2 != 0) (
                .bnd (app 140737488355328 [] ([IntKind.u8.wrap (IntKind.i64.wrap (240 + (IntKind.i64.wrap (l_2.1.tdiv l_2.2.2))))])) fun r_8 =>
                .bnd (loopW (fun s => (ref01_Bytes_L22 s.1 s.2.1 s.2.2).run) (l_2.1, r_8, l_2.2.2)) fun l_9 =>
                .pure l_9) (
                .fail)) (
              .br (l_2.2.2 != 0) (
                .bnd (app 140737488355328 [] ([IntKind.u8.wrap (IntKind.i64.wrap (192 + (IntKind.i64.wrap (l_2.1.tdiv l_2.2.2))))])) fun r_10 =>
                .bnd (loopW (fun s => (ref01_Bytes_L22 s.1 s.2.1 s.2.2).run) (l_2.1, r_10, l_2.2.2)) fun l_11 =>
                .pure l_11) (
                .fail)))) (
          .bnd (loopW (fun s => (ref01_Bytes_L13 s.1 s.2.1 s.2.2.1 s.2.2.2).run) (65533, 3, 1, 1)) fun l_12 =>
          .br (l_12.2.1 == 3) (
            .br (l_12.2.1 == 4) (
              .br (l_12.2.2 != 0) (
                .bnd (app 140737488355328 [] ([IntKind.u8.wrap (IntKind.i64.wrap (240 + (IntKind.i64.wrap (l_12.1.tdiv l_12.2.2))))])) fun r_13 =>
                .bnd (loopW (fun s => (ref01_Bytes_L22 s.1 s.2.1 s.2.2).run) (l_12.1, r_13, l_12.2.2)) fun l_14 =>
                .pure l_14) (
                .fail)) (
              .br (l_12.2.2 != 0) (
                .bnd (app 140737488355328 [] ([IntKind.u8.wrap (IntKind.i64.wrap (224 + (IntKind.i64.wrap (l_12.1.tdiv l_12.2.2))))])) fun r_15 =>
                .bnd (loopW (fun s => (ref01_Bytes_L22 s.1 s.2.1 s.2.2).run) (l_12.1, r_15, l_12.2.2)) fun l_16 =>
                .pure l_16) (
                .fail))) (
            .br (l_12.2.1 == 4) (
              .br (l_12.2.2 != 0) (
                .bnd (app 140737488355328 [] ([IntKind.u8.wrap (IntKind.i64.wrap (240 + (IntKind.i64.wrap (l_12.1.tdiv l_12.2.2))))])) fun r_17 =>
                .bnd (loopW (fun s => (ref01_Bytes_L22 s.1 s.2.1 s.2.2).run) (l_12.1, r_17, l_12.2.2)) fun l_18 =>
                .pure l_18) (
                .fail)) (
              .br (l_12.2.2 != 0) (
                .bnd (app 140737488355328 [] ([IntKind.u8.wrap (IntKind.i64.wrap (192 + (IntKind.i64.wrap (l_12.1.tdiv l_12.2.2))))])) fun r_19 =>
                .bnd (loopW (fun s => (ref01_Bytes_L22 s.1 s.2.1 s.2.2).run) (l_12.1, r_19, l_12.2.2)) fun l_20 =>
                .pure l_20) (
                .fail))))) (
        .br (decide (65533 ≥ 65536)) (
          .bnd (loopW (fun s => (ref01_Bytes_L13 s.1 s.2.1 s.2.2.1 s.2.2.2).run) (65533, 4, 1, 1)) fun l_21 =>
          .br (l_21.2.1 == 3) (
            .br (l_21.2.1 == 4) (
              .br (l_21.2.2 != 0) (
                .bnd (app 140737488355328 [] ([IntKind.u8.wrap (IntKind.i64.wrap (240 + (IntKind.i64.wrap (l_21.1.tdiv l_21.2.2))))])) fun r_22 =>
                .bnd (loopW (fun s => (ref01_Bytes_L22 s.1 s.2.1 s.2.2).run) (l_21.1, r_22, l_21.2.2)) fun l_23 =>
                .pure l_23) (
                .fail)) (
              .br (l_21.2.2 != 0) (
                .bnd (app 140737488355328 [] ([IntKind.u8.wrap (IntKind.i64.wrap (224 + (IntKind.i64.wrap (l_21.1.tdiv l_21.2.2))))])) fun r_24 =>
                .bnd (loopW (fun s => (ref01_Bytes_L22 s.1 s.2.1 s.2.2).run) (l_21.1, r_24, l_21.2.2)) fun l_25 =>
                .pure l_25) (
                .fail))) (
            .br (l_21.2.1 == 4) (
              .br (l_21.2.2 != 0) (
                .bnd (app 140737488355328 [] ([IntKind.u8.wrap (IntKind.i64.wrap (240 + (IntKind.i64.wrap (l_21.1.tdiv l_21.2.2))))])) fun r_26 =>
                .bnd (loopW (fun s => (ref01_Bytes_L22 s.1 s.2.1 s.2.2).run) (l_21.1, r_26, l_21.2.2)) fun l_27 =>
                .pure l_27) (
                .fail)) (
              .br (l_21.2.2 != 0) (
                .bnd (app 140737488355328 [] ([IntKind.u8.wrap (IntKind.i64.wrap (192 + (IntKind.i64.wrap (l_21.1.tdiv l_21.2.2))))])) fun r_28 =>
                .bnd (loopW (fun s => (ref01_Bytes_L22 s.1 s.2.1 s.2.2).run) (l_21.1, r_28, l_21.2.2)) fun l_29 =>
                .pure l_29) (
                .fail)))) (
          .bnd (loopW (fun s => (ref01_Bytes_L13 s.1 s.2.1 s.2.2.1 s.2.2.2).run) (65533, 2, 1, 1)) fun l_30 =>
          .br (l_30.2.1 == 3) (
            .br (l_30.2.1 == 4) (
              .br (l_30.2.2 != 0) (
                .bnd (app 140737488355328 [] ([IntKind.u8.wrap (IntKind.i64.wrap (240 + (IntKind.i64.wrap (l_30.1.tdiv l_30.2.2))))])) fun r_31 =>
                .bnd (loopW (fun s => (ref01_Bytes_L22 s.1 s.2.1 s.2.2).run) (l_30.1, r_31, l_30.2.2)) fun l_32 =>
                .pure l_32) (
                .fail)) (
              .br (l_30.2.2 != 0) (
                .bnd (app 140737488355328 [] ([IntKind.u8.wrap (IntKind.i64.wrap (224 + (IntKind.i64.wrap (l_30.1.tdiv l_30.2.2))))])) fun r_33 =>
                .bnd (loopW (fun s => (ref01_Bytes_L22 s.1 s.2.1 s.2.2).run) (l_30.1, r_33, l_30.2.2)) fun l_34 =>
                .pure l_34) (
                .fail))) (
            .br (l_30.2.1 == 4) (
              .br (l_30.2.2 != 0) (
                .bnd (app 140737488355328 [] ([IntKind.u8.wrap (IntKind.i64.wrap (240 + (IntKind.i64.wrap (l_30.1.tdiv l_30.2.2))))])) fun r_35 =>
                .bnd (loopW (fun s => (ref01_Bytes_L22 s.1 s.2.1 s.2.2).run) (l_30.1, r_35, l_30.2.2)) fun l_36 =>
                .pure l_36) (
                .fail)) (
              .br (l_30.2.2 != 0) (
                .bnd (app 140737488355328 [] ([IntKind.u8.wrap (IntKind.i64.wrap (192 + (IntKind.i64.wrap (l_30.1.tdiv l_30.2.2))))])) fun r_37 =>
                .bnd (loopW (fun s => (ref01_Bytes_L22 s.1 s.2.1 s.2.2).run) (l_30.1, r_37, l_30.2.2)) fun l_38 =>
                .pure l_38) (
                .fail))))))) (
    .br (decide (j_1.1 < 128)) (
      .pure ([IntKind.u8.wrap j_1.1])) (
      .br (decide (j_1.1 ≥ 2048)) (
        .br (decide (j_1.1 ≥ 65536)) (
          .bnd (loopW (fun s => (ref01_Bytes_L13 s.1 s.2.1 s.2.2.1 s.2.2.2).run) (j_1.1, 4, 1, 1)) fun l_39 =>
          .br (l_39.2.1 == 3) (
            .br (l_39.2.1 == 4) (
              .br (l_39.2.2 != 0) (
                .bnd (app 140737488355328 [] ([IntKind.u8.wrap (IntKind.i64.wrap (240 + (IntKind.i64.wrap (l_39.1.tdiv l_39.2.2))))])) fun r_40 =>
                .bnd (loopW (fun s => (ref01_Bytes_L22 s.1 s.2.1 s.2.2).run) (l_39.1, r_40, l_39.2.2)) fun l_41 =>
                .pure l_41) (
                .fail)) (
              .br (l_39.2.2 != 0) (
                .bnd (app 140737488355328 [] ([IntKind.u8.wrap (IntKind.i64.wrap (224 + (IntKind.i64.wrap (l_39.1.tdiv l_39.2.2))))])) fun r_42 =>
                .bnd (loopW (fun s => (ref01_Bytes_L22 s.1 s.2.1 s.2.2).run) (l_39.1, r_42, l_39.2.2)) fun l_43 =>
                .pure l_43) (
                .fail))) (
            .br (l_39.2.1 == 4) (
              .br (l_39.2.2 != 0) (
                .bnd (app 140737488355328 [] ([IntKind.u8.wrap (IntKind.i64.wrap (240 + (IntKind.i64.wrap (l_39.1.tdiv l_39.2.2))))])) fun r_44 =>
                .bnd (loopW (fun s => (ref01_Bytes_L22 s.1 s.2.1 s.2.2).run) (l_39.1, r_44, l_39.2.2)) fun l_45 =>
                .pure l_45) (
                .fail)) (
              .br (l_39.2.2 != 0) (
                .bnd (app 140737488355328 [] ([IntKind.u8.wrap (IntKind.i64.wrap (192 + (IntKind.i64.wrap (l_39.1.tdiv l_39.2.2))))])) fun r_46 =>
                .bnd (loopW (fun s => (ref01_Bytes_L22 s.1 s.2.1 s.2.2).run) (l_39.1, r_46, l_39.2.2)) fun l_47 =>
                .pure l_47) (
                .fail)))) (
          .bnd (loopW (fun s => (ref01_Bytes_L13 s.1 s.2.1 s.2.2.1 s.2.2.2).run) (j_1.1, 3, 1, 1)) fun l_48 =>
          .br (l_48.2.1 == 3) (
            .br (l_48.2.1 == 4) (
              .br (l_48.2.2 != 0) (
                .bnd (app 140737488355328 [] ([IntKind.u8.wrap (IntKind.i64.wrap (240 + (IntKind.i64.wrap (l_48.1.tdiv l_48.2.2))))])) fun r_49 =>
                .bnd (loopW (fun s => (ref01_Bytes_L22 s.1 s.2.1 s.2.2).run) (l_48.1, r_49, l_48.2.2)) fun l_50 =>
                .pure l_50) (
                .fail)) (
              .br (l_48.2.2 != 0) (
                .bnd (app 140737488355328 [] ([IntKind.u8.wrap (IntKind.i64.wrap (224 + (IntKind.i64.wrap (l_48.1.tdiv l_48.2.2))))])) fun r_51 =>
                .bnd (loopW (fun s => (ref01_Bytes_L22 s.1 s.2.1 s.2.2).run) (l_48.1, r_51, l_48.2.2)) fun l_52 =>
                .pure l_52) (
                .fail))) (
            .br (l_48.2.1 == 4) (
              .br (l_48.2.2 != 0) (
                .bnd (app 140737488355328 [] ([IntKind.u8.wrap (IntKind.i64.wrap (240 + (IntKind.i64.wrap (l_48.1.tdiv l_48.2.2))))])) fun r_53 =>
                .bnd (loopW (fun s => (ref01_Bytes_L22 s.1 s.2.1 s.2.2).run) (l_48.1, r_53, l_48.2.2)) fun l_54 =>
                .pure l_54) (
                .fail)) (
              .br (l_48.2.2 != 0) (
                .bnd (app 140737488355328 [] ([IntKind.u8.wrap (IntKind.i64.wrap (192 + (IntKind.i64.wrap (l_48.1.tdiv l_48.2.2))))])) fun r_55 =>
                .bnd (loopW (fun s => (ref01_Bytes_L22 s.1 s.2.1 s.2.2).run) (l_48.1, r_55, l_48.2.2)) fun l_56 =>
                .pure l_56) (
                .fail))))) (
        .br (decide (j_1.1 ≥ 65536)) (
          .bnd (loopW (fun s => (ref01_Bytes_L13 s.1 s.2.1 s.2.2.1 s.2.2.2).run) (j_1.1, 4, 1, 1)) fun l_57 =>
          .br (l_57.2.1 == 3) (
            .br (l_57.2.1 == 4) (
              .br (l_57.2.2 != 0) (
                .bnd (app 140737488355328 [] ([IntKind.u8.wrap (IntKind.i64.wrap (240 + (IntKind.i64.wrap (l_57.1.tdiv l_57.2.2))))])) fun r_58 =>
                .bnd (loopW (fun s => (ref01_Bytes_L22 s.1 s.2.1 s.2.2).run) (l_57.1, r_58, l_57.2.2)) fun l_59 =>
                .pure l_59) (
                .fail)) (
              .br (l_57.2.2 != 0) (
                .bnd (app 140737488355328 [] ([IntKind.u8.wrap (IntKind.i64.wrap (224 + (IntKind.i64.wrap (l_57.1.tdiv l_57.2.2))))])) fun r_60 =>
                .bnd (loopW (fun s => (ref01_Bytes_L22 s.1 s.2.1 s.2.2).run) (l_57.1, r_60, l_57.2.2)) fun l_61 =>
                .pure l_61) (
                .fail))) (
            .br (l_57.2.1 == 4) (
              .br (l_57.2.2 != 0) (
                .bnd (app 140737488355328 [] ([IntKind.u8.wrap (IntKind.i64.wrap (240 + (IntKind.i64.wrap (l_57.1.tdiv l_57.2.2))))])) fun r_62 =>
                .bnd (loopW (fun s => (ref01_Bytes_L22 s.1 s.2.1 s.2.2).run) (l_57.1, r_62, l_57.2.2)) fun l_63 =>
                .pure l_63) (
                .fail)) (
              .br (l_57.2.2 != 0) (
                .bnd (app 140737488355328 [] ([IntKind.u8.wrap (IntKind.i64.wrap (192 + (IntKind.i64.wrap (l_57.1.tdiv l_57.2.2))))])) fun r_64 =>
                .bnd (loopW (fun s => (ref01_Bytes_L22 s.1 s.2.1 s.2.2).run) (l_57.1, r_64, l_57.2.2)) fun l_65 =>
                .pure l_65) (
                .fail)))) (
          .bnd (loopW (fun s => (ref01_Bytes_L13 s.1 s.2.1 s.2.2.1 s.2.2.2).run) (j_1.1, 2, 1, 1)) fun l_66 =>
          .br (l_66.2.1 == 3) (
            .br (l_66.2.1 == 4) (
              .br (l_66.2.2 != 0) (
                .bnd (app 140737488355328 [] ([IntKind.u8.wrap (IntKind.i64.wrap (240 + (IntKind.i64.wrap (l_66.1.tdiv l_66.2.2))))])) fun r_67 =>
                .bnd (loopW (fun s => (ref01_Bytes_L22 s.1 s.2.1 s.2.2).run) (l_66.1, r_67, l_66.2.2)) fun l_68 =>
                .pure l_68) (
                .fail)) (
              .br (l_66.2.2 != 0) (
                .bnd (app 140737488355328 [] ([IntKind.u8.wrap (IntKind.i64.wrap (224 + (IntKind.i64.wrap (l_66.1.tdiv l_66.2.2))))])) fun r_69 =>
                .bnd (loopW (fun s => (ref01_Bytes_L22 s.1 s.2.1 s.2.2).run) (l_66.1, r_69, l_66.2.2)) fun l_70 =>
                .pure l_70) (
                .fail))) (
            .br (l_66.2.1 == 4) (
              .br (l_66.2.2 != 0) (
                .bnd (app 140737488355328 [] ([IntKind.u8.wrap (IntKind.i64.wrap (240 + (IntKind.i64.wrap (l_66.1.tdiv l_66.2.2))))])) fun r_71 =>
                .bnd (loopW (fun s => (ref01_Bytes_L22 s.1 s.2.1 s.2.2).run) (l_66.1, r_71, l_66.2.2)) fun l_72 =>
                .pure l_72) (
                .fail)) (
              .br (l_66.2.2 != 0) (
                .bnd (app 140737488355328 [] ([IntKind.u8.wrap (IntKind.i64.wrap (192 + (IntKind.i64.wrap (l_66.1.tdiv l_66.2.2))))])) fun r_73 =>
                .bnd (loopW (fun s => (ref01_Bytes_L22 s.1 s.2.1 s.2.2).run) (l_66.1, r_73, l_66.2.2)) fun l_74 =>
                .pure l_74) (
                .fail)))))))
noncomputable def ref01_Bytes_F (r0 : Int) : Option (List Int) := (ref01_Bytes_T r0).run
def ref01_Bytes_L : List (Nat × LoopAnn) := [(13, { head := [.sv 0 true (.int .i64), .snil 3, .sv 4 true (.int .i64), .sv 5 true (.int .i64), .sv 6 true (.int .i64)], xid := 0, out := [.sv 0 true (.int .i64), .snil 3, .sv 4 true (.int .i64), .sv 5 true (.int .i64)], hasRet := false, res := [] }), (22, { head := [.sv 0 true (.int .i64), .srow 3 1000003 5 true (.int .u8), .sv 5 true (.int .i64)], xid := 2, out := [.srow 3 1000003 5 true (.int .u8)], hasRet := false, res := [] })]
noncomputable def ref01_Bytes_C : List (Nat × Callee) := []
noncomputable def ref01_Bytes_fun : Fun := ⟨[.int .i64], [.row 5 (.int .u8)], fun x => ref01_Bytes_F x.1⟩
theorem ref01_Bytes_ev (x : Tys.I [.int .i64]) : evFun G0 (fun f => olook f ref01_Bytes_C) ⟨[], [], [], [(1, [.sv 0 false (.int .i64), .sv 21 true .bool])], [], []⟩ (fun i => olook i ref01_Bytes_L) Try.f8 [.int .i64] [.row 5 (.int .u8)] x = ref01_Bytes_T x.1 := by kernel_rfl
theorem ref01_Bytes_ok : FunOk Try.prog 8 ref01_Bytes_fun := evFun_ok mixed ctx0 (no_calls) Try.func8 (by kernel_rfl) _ (fun x => congrArg Tr.run (ref01_Bytes_ev x)) (by kernel_rfl) (by kernel_rfl)
/-! ### boustrophedon/boustrophedonlaw01.same -/
noncomputable def law01_same_T (a0 : List Int) (b1 : List Int) : Tr Bool :=
  .pure ((strOfNums a0).toList == (strOfNums b1).toList)
noncomputable def law01_same_F (a0 : List Int) (b1 : List Int) : Option Bool := (law01_same_T a0 b1).run
def law01_same_L : List (Nat × LoopAnn) := []
noncomputable def law01_same_C : List (Nat × Callee) := []
noncomputable def law01_same_fun : Fun := ⟨[.sl (.int .u8), .sl (.int .u8)], [.v .bool], fun x => law01_same_F x.1 x.2.1⟩
theorem law01_same_ev (x : Tys.I [.sl (.int .u8), .sl (.int .u8)]) : evFun G0 (fun f => olook f law01_same_C) ⟨[], [], [], [], [], []⟩ (fun i => olook i law01_same_L) Try.f9 [.sl (.int .u8), .sl (.int .u8)] [.v .bool] x = law01_same_T x.1 x.2.1 := by kernel_rfl
theorem law01_same_ok : FunOk Try.prog 9 law01_same_fun := evFun_ok mixed ctx0 (no_calls) Try.func9 (by kernel_rfl) _ (fun x => congrArg Tr.run (law01_same_ev x)) (by kernel_rfl) (by kernel_rfl)
/-! ### boustrophedon/utf.Scalar -/
noncomputable def utf_Scalar_T (r0 : Int) : Tr Bool :=
  .br (decide (0 ≤ r0)) (
    .br (decide (r0 < 55296)) (
      .pure true) (
      .br (decide (57343 < r0)) (
        .pure (decide (r0 ≤ 1114111))) (
        .pure false))) (
    .br (decide (57343 < r0)) (
      .pure (decide (r0 ≤ 1114111))) (
      .pure false))
noncomputable def utf_Scalar_F (r0 : Int) : Option Bool := (utf_Scalar_T r0).run
def utf_Scalar_L : List (Nat × LoopAnn) := []
noncomputable def utf_Scalar_C : List (Nat × Callee) := []
noncomputable def utf_Scalar_fun : Fun := ⟨[.int .i32], [.v .bool], fun x => utf_Scalar_F x.1⟩
theorem utf_Scalar_ev (x : Tys.I [.int .i32]) : evFun G0 (fun f => olook f utf_Scalar_C) ⟨[], [], [], [], [], []⟩ (fun i => olook i utf_Scalar_L) Try.f12 [.int .i32] [.v .bool] x = utf_Scalar_T x.1 := by kernel_rfl
theorem utf_Scalar_ok : FunOk Try.prog 12 utf_Scalar_fun := evFun_ok mixed ctx0 (no_calls) Try.func12 (by kernel_rfl) _ (fun x => congrArg Tr.run (utf_Scalar_ev x)) (by kernel_rfl) (by kernel_rfl)
/-! ### boustrophedon/utf.tail -/
noncomputable def utf_tail_T (r0 : Int) : Tr Int :=
  .pure (ibits .or .u8 128 (IntKind.u8.wrap (ibits .and .i32 r0 63)))
noncomputable def utf_tail_F (r0 : Int) : Option Int := (utf_tail_T r0).run
def utf_tail_L : List (Nat × LoopAnn) := []
noncomputable def utf_tail_C : List (Nat × Callee) := []
noncomputable def utf_tail_fun : Fun := ⟨[.int .i32], [.v (.int .u8)], fun x => utf_tail_F x.1⟩
theorem utf_tail_ev (x : Tys.I [.int .i32]) : evFun G0 (fun f => olook f utf_tail_C) ⟨[], [], [], [], [], []⟩ (fun i => olook i utf_tail_L) Try.f18 [.int .i32] [.v (.int .u8)] x = utf_tail_T x.1 := by kernel_rfl
theorem utf_tail_ok : FunOk Try.prog 18 utf_tail_fun := evFun_ok mixed ctx0 (no_calls) Try.func18 (by kernel_rfl) _ (fun x => congrArg Tr.run (utf_tail_ev x)) (by kernel_rfl) (by kernel_rfl)
/-! ### boustrophedon/utf.write -/
noncomputable def utf_write_T (b0 : List Int) (r1 : Int) : Tr (List Int) :=
  .bnd (utf_Scalar_F r1) fun c_1 =>
  .br (!c_1) (
    .br (decide (65533 < 128)) (
      .bnd (app 140737488355328 b0 ([IntKind.u8.wrap 65533])) fun r_2 =>
      .pure r_2) (
      .br (decide (65533 < 2048)) (
        .bnd (utf_tail_F 65533) fun c_3 =>
        .bnd (app 140737488355328 b0 ([ibits .or .u8 192 (IntKind.u8.wrap (shiftBy .shr .i32 65533 6)), c_3])) fun r_4 =>
        .pure r_4) (
        .br (decide (65533 < 65536)) (
          .bnd (utf_tail_F (shiftBy .shr .i32 65533 6)) fun c_5 =>
          .bnd (utf_tail_F 65533) fun c_6 =>
          .bnd (app 140737488355328 b0 ([ibits .or .u8 224 (IntKind.u8.wrap (shiftBy .shr .i32 65533 12)), c_5, c_6])) fun r_7 =>
          .pure r_7) (
          .bnd (utf_tail_F (shiftBy .shr .i32 65533 12)) fun c_8 =>
          .bnd (utf_tail_F (shiftBy .shr .i32 65533 6)) fun c_9 =>
          .bnd (utf_tail_F 65533) fun c_10 =>
          .bnd (app 140737488355328 b0 ([ibits .or .u8 240 (IntKind.u8.wrap (shiftBy .shr .i32 65533 18)), c_8, c_9, c_10])) fun r_11 =>
          .pure r_11)))) (
    .br (decide (r1 < 128)) (
      .bnd (app 140737488355328 b0 ([IntKind.u8.wrap r1])) fun r_12 =>
      .pure r_12) (
      .br (decide (r1 < 2048)) (
        .bnd (utf_tail_F r1) fun c_13 =>
        .bnd (app 140737488355328 b0 ([ibits .or .u8 192 (IntKind.u8.wrap (shiftBy .shr .i32 r1 6)), c_13])) fun r_14 =>
        .pure r_14) (
        .br (decide (r1 < 65536)) (
          .bnd (utf_tail_F (shiftBy .shr .i32 r1 6)) fun c_15 =>
          .bnd (utf_tail_F r1) fun c_16 =>
          .bnd (app 140737488355328 b0 ([ibits .or .u8 224 (IntKind.u8.wrap (shiftBy .shr .i32 r1 12)), c_15, c_16])) fun r_17 =>
          .pure r_17) (
          .bnd (utf_tail_F (shiftBy .shr .i32 r1 12)) fun c_18 =>
          .bnd (utf_tail_F (shiftBy .shr .i32 r1 6)) fun c_19 =>
          .bnd (utf_tail_F r1) fun c_20 =>
          .bnd (app 140737488355328 b0 ([ibits .or .u8 240 (IntKind.u8.wrap (shiftBy .shr .i32 r1 18)), c_18, c_19, c_20])) fun r_21 =>
          .pure r_21))))
noncomputable def utf_write_F (b0 : List Int) (r1 : Int) : Option (List Int) := (utf_write_T b0 r1).run
def utf_write_L : List (Nat × LoopAnn) := []
noncomputable def utf_write_C : List (Nat × Callee) := [(12, .plain utf_Scalar_fun), (18, .plain utf_tail_fun)]
noncomputable def utf_write_fun : TFun := ⟨5, (.int .u8), [.int .i32], fun s x => utf_write_F s x.1⟩
theorem utf_write_ev (s : List Int) (x : Tys.I [.int .i32]) : evFunT G0 (fun f => olook f utf_write_C) ⟨[], [], [], [], [], []⟩ (fun i => olook i utf_write_L) Try.f16 5 (.int .u8) [.int .i32] s x = utf_write_T s x.1 := by kernel_rfl
theorem utf_write_ok : TakeOk Try.prog 16 utf_write_fun := evFunT_ok mixed ctx0 (cons_calls (fb := .plain utf_Scalar_fun) utf_Scalar_ok (fun h => by cases h) (cons_calls (fb := .plain utf_tail_fun) utf_tail_ok (fun h => by cases h) (no_calls))) Try.func16 (by kernel_rfl) _ (fun s x => congrArg Tr.run (utf_write_ev s x)) (by kernel_rfl)
/-! ### boustrophedon/utf.Encode -/
noncomputable def utf_Encode_L3 (b3 : List Int) (t6 : List Int) (t7 : Int) (t8 : Int) : Tr (Lap (List Int × List Int × Int × Int) (List Int)) :=
  .br (decide (t8 < t7)) (
    .bnd (idx t6 t8) fun x_1 =>
    .bnd (utf_write_F b3 x_1) fun c_2 =>
    .pure (.next (c_2, t6, t7, IntKind.i64.wrap (t8 + 1)))) (
    .pure (.done b3))
noncomputable def utf_Encode_T (rs0 : List Int) : Tr (List Int) :=
  .bnd (loopW (fun s => (utf_Encode_L3 s.1 s.2.1 s.2.2.1 s.2.2.2).run) ([], rs0, (rs0.length : Int), 0)) fun l_3 =>
  .pure l_3
noncomputable def utf_Encode_F (rs0 : List Int) : Option (List Int) := (utf_Encode_T rs0).run
def utf_Encode_L : List (Nat × LoopAnn) := [(3, { head := [.srow 3 1000003 5 true (.int .u8), .sv 6 false (.sl (.int .i32)), .sv 7 true (.int .i64), .sv 8 true (.int .i64)], xid := 0, out := [.srow 3 1000003 5 true (.int .u8)], hasRet := false, res := [] })]
noncomputable def utf_Encode_C : List (Nat × Callee) := [(16, .take utf_write_fun)]
noncomputable def utf_Encode_fun : Fun := ⟨[.sl (.int .i32)], [.row 5 (.int .u8)], fun x => utf_Encode_F x.1⟩
theorem utf_Encode_ev (x : Tys.I [.sl (.int .i32)]) : evFun G0 (fun f => olook f utf_Encode_C) ⟨[], [], [16], [], [], []⟩ (fun i => olook i utf_Encode_L) Try.f10 [.sl (.int .i32)] [.row 5 (.int .u8)] x = utf_Encode_T x.1 := by kernel_rfl
theorem utf_Encode_ok : FunOk Try.prog 10 utf_Encode_fun := evFun_ok mixed ctx0 (cons_calls (fb := .take utf_write_fun) utf_write_ok (fun h => by rfl) (no_calls)) Try.func10 (by kernel_rfl) _ (fun x => congrArg Tr.run (utf_Encode_ev x)) (by kernel_rfl) (by kernel_rfl)
/-! ### boustrophedon/utf.Put -/
noncomputable def utf_Put_T (r0 : Int) : Tr (List Int) :=
  .bnd (utf_write_F ([]) r0) fun c_1 =>
  .pure c_1
noncomputable def utf_Put_F (r0 : Int) : Option (List Int) := (utf_Put_T r0).run
def utf_Put_L : List (Nat × LoopAnn) := []
noncomputable def utf_Put_C : List (Nat × Callee) := [(16, .take utf_write_fun)]
noncomputable def utf_Put_fun : Fun := ⟨[.int .i32], [.row 5 (.int .u8)], fun x => utf_Put_F x.1⟩
theorem utf_Put_ev (x : Tys.I [.int .i32]) : evFun G0 (fun f => olook f utf_Put_C) ⟨[], [], [16], [], [], []⟩ (fun i => olook i utf_Put_L) Try.f11 [.int .i32] [.row 5 (.int .u8)] x = utf_Put_T x.1 := by kernel_rfl
theorem utf_Put_ok : FunOk Try.prog 11 utf_Put_fun := evFun_ok mixed ctx0 (cons_calls (fb := .take utf_write_fun) utf_write_ok (fun h => by rfl) (no_calls)) Try.func11 (by kernel_rfl) _ (fun x => congrArg Tr.run (utf_Put_ev x)) (by kernel_rfl) (by kernel_rfl)
/-! ### boustrophedon/boustrophedonlaw01.UtfWrites -/
noncomputable def law01_UtfWrites_L5 (rs0 : List Int) (r1 : Int) (want5 : List Int) (k6 : Int) : Tr (Lap (List Int × Int × List Int × Int) (List Int × Int × List Int)) :=
  .br (decide (k6 < (rs0.length : Int))) (
    .bnd (idx rs0 k6) fun x_2 =>
    .bnd (ref01_Bytes_F (IntKind.i64.wrap x_2)) fun c_3 =>
    .bnd (app 140737488355328 want5 c_3) fun r_4 =>
    .pure (.next (rs0, r1, r_4, IntKind.i64.wrap (k6 + 1)))) (
    .pure (.done (rs0, r1, want5)))
noncomputable def law01_UtfWrites_T (rs0 : List Int) (r1 : Int) : Tr Bool :=
  .bnd law01_awake_F fun c_1 =>
  .br (!c_1) (
    .pure false) (
    .bnd (loopW (fun s => (law01_UtfWrites_L5 s.1 s.2.1 s.2.2.1 s.2.2.2).run) (rs0, r1, [], 0)) fun l_5 =>
    .br (decide (l_5.2.1 ≥ 0)) (
      .br (decide (l_5.2.1 ≤ 1114111)) (
        .br (decide (l_5.2.1 < 55296)) (
          .bnd (utf_Encode_F l_5.1) fun c_6 =>
          .bnd (law01_same_F c_6 l_5.2.2) fun c_7 =>
          .br c_7 (
            .bnd (utf_Put_F l_5.2.1) fun c_8 =>
            .bnd (ref01_Bytes_F (IntKind.i64.wrap l_5.2.1)) fun c_9 =>
            .bnd (law01_same_F c_8 c_9) fun c_10 =>
            .br c_10 (
              .bnd (utf_Scalar_F l_5.2.1) fun c_11 =>
              .pure (c_11 == true)) (
              .pure false)) (
            .pure false)) (
          .bnd (utf_Encode_F l_5.1) fun c_12 =>
          .bnd (law01_same_F c_12 l_5.2.2) fun c_13 =>
          .br c_13 (
            .bnd (utf_Put_F l_5.2.1) fun c_14 =>
            .bnd (ref01_Bytes_F (IntKind.i64.wrap l_5.2.1)) fun c_15 =>
            .bnd (law01_same_F c_14 c_15) fun c_16 =>
            .br c_16 (
              .bnd (utf_Scalar_F l_5.2.1) fun c_17 =>
              .pure (c_17 == (decide (l_5.2.1 > 57343)))) (
              .pure false)) (
            .pure false))) (
        .bnd (utf_Encode_F l_5.1) fun c_18 =>
        .bnd (law01_same_F c_18 l_5.2.2) fun c_19 =>
        .br c_19 (
          .bnd (utf_Put_F l_5.2.1) fun c_20 =>
          .bnd (ref01_Bytes_F (IntKind.i64.wrap l_5.2.1)) fun c_21 =>
          .bnd (law01_same_F c_20 c_21) fun c_22 =>
          .br c_22 (
            .bnd (utf_Scalar_F l_5.2.1) fun c_23 =>
            .pure (c_23 == false)) (
            .pure false)) (
          .pure false))) (
      .bnd (utf_Encode_F l_5.1) fun c_24 =>
      .bnd (law01_same_F c_24 l_5.2.2) fun c_25 =>
      .br c_25 (
        .bnd (utf_Put_F l_5.2.1) fun c_26 =>
        .bnd (ref01_Bytes_F (IntKind.i64.wrap l_5.2.1)) fun c_27 =>
        .bnd (law01_same_F c_26 c_27) fun c_28 =>
        .br c_28 (
          .bnd (utf_Scalar_F l_5.2.1) fun c_29 =>
          .pure (c_29 == false)) (
          .pure false)) (
        .pure false)))
noncomputable def law01_UtfWrites_F (rs0 : List Int) (r1 : Int) : Option Bool := (law01_UtfWrites_T rs0 r1).run
def law01_UtfWrites_L : List (Nat × LoopAnn) := [(5, { head := [.sv 0 false (.sl (.int .i32)), .sv 1 false (.int .i32), .srow 5 1000005 5 true (.int .u8), .sv 6 true (.int .i64)], xid := 0, out := [.sv 0 false (.sl (.int .i32)), .sv 1 false (.int .i32), .srow 5 1000005 5 true (.int .u8)], hasRet := false, res := [] })]
noncomputable def law01_UtfWrites_C : List (Nat × Callee) := [(7, .plain law01_awake_fun), (8, .plain ref01_Bytes_fun), (10, .plain utf_Encode_fun), (9, .plain law01_same_fun), (11, .plain utf_Put_fun), (12, .plain utf_Scalar_fun)]
noncomputable def law01_UtfWrites_fun : Fun := ⟨[.sl (.int .i32), .int .i32], [.v .bool], fun x => law01_UtfWrites_F x.1 x.2.1⟩
theorem law01_UtfWrites_ev (x : Tys.I [.sl (.int .i32), .int .i32]) : evFun G0 (fun f => olook f law01_UtfWrites_C) ⟨[], [], [], [], [], []⟩ (fun i => olook i law01_UtfWrites_L) Try.f3 [.sl (.int .i32), .int .i32] [.v .bool] x = law01_UtfWrites_T x.1 x.2.1 := by kernel_rfl
theorem law01_UtfWrites_ok : FunOk Try.prog 3 law01_UtfWrites_fun := evFun_ok mixed ctx0 (cons_calls (fb := .plain law01_awake_fun) law01_awake_ok (fun h => by cases h) (cons_calls (fb := .plain ref01_Bytes_fun) ref01_Bytes_ok (fun h => by cases h) (cons_calls (fb := .plain utf_Encode_fun) utf_Encode_ok (fun h => by cases h) (cons_calls (fb := .plain law01_same_fun) law01_same_ok (fun h => by cases h) (cons_calls (fb := .plain utf_Put_fun) utf_Put_ok (fun h => by cases h) (cons_calls (fb := .plain utf_Scalar_fun) utf_Scalar_ok (fun h => by cases h) (no_calls))))))) Try.func3 (by kernel_rfl) _ (fun x => congrArg Tr.run (law01_UtfWrites_ev x)) (by kernel_rfl) (by kernel_rfl)
/-! ### boustrophedon/utf.Valid -/
noncomputable def utf_Valid_L2 (b0 : List Int) (at3 : Int) : Tr (Lap (List Int × Int) (Sum Unit Bool)) :=
  .br (decide (at3 < (b0.length : Int))) (
    .bnd (utf_read_F b0 at3) fun c_1 =>
    .br (!c_1.2.2) (
      .pure (.done (.inr false))) (
      .pure (.next (b0, IntKind.i64.wrap (at3 + c_1.2.1))))) (
    .pure (.done (.inl ())))
noncomputable def utf_Valid_T (b0 : List Int) : Tr Bool :=
  .alt (loopW (fun s => (utf_Valid_L2 s.1 s.2).run) (b0, 0)) (fun l_2 =>
    .pure true) (fun l_3 =>
    .pure l_3)
noncomputable def utf_Valid_F (b0 : List Int) : Option Bool := (utf_Valid_T b0).run
def utf_Valid_L : List (Nat × LoopAnn) := [(2, { head := [.sv 0 false (.sl (.int .u8)), .sv 3 true (.int .i64)], xid := 0, out := [], hasRet := true, res := [.sv 2 true .bool] })]
noncomputable def utf_Valid_C : List (Nat × Callee) := [(17, .plain utf_read_fun)]
noncomputable def utf_Valid_fun : Fun := ⟨[.sl (.int .u8)], [.v .bool], fun x => utf_Valid_F x.1⟩
theorem utf_Valid_ev (x : Tys.I [.sl (.int .u8)]) : evFun G0 (fun f => olook f utf_Valid_C) ⟨[], [], [], [], [], []⟩ (fun i => olook i utf_Valid_L) Try.f14 [.sl (.int .u8)] [.v .bool] x = utf_Valid_T x.1 := by kernel_rfl
theorem utf_Valid_ok : FunOk Try.prog 14 utf_Valid_fun := evFun_ok mixed ctx0 (cons_calls (fb := .plain utf_read_fun) utf_read_ok (fun h => by cases h) (no_calls)) Try.func14 (by kernel_rfl) _ (fun x => congrArg Tr.run (utf_Valid_ev x)) (by kernel_rfl) (by kernel_rfl)
/-! ### boustrophedon/boustrophedonlaw01.UtfBack -/
noncomputable def law01_UtfBack_L5 (raw0 : List Int) (b1 : List Int) (rs5 : List Int) (k6 : Int) : Tr (Lap (List Int × List Int × List Int × Int) (List Int × List Int)) :=
  .br (decide (k6 < (raw0.length : Int))) (
    .bnd (idx raw0 k6) fun x_2 =>
    .bnd (utf_Scalar_F x_2) fun c_3 =>
    .br c_3 (
      .bnd (idx raw0 k6) fun x_4 =>
      .bnd (app 35184372088832 rs5 ([x_4])) fun r_5 =>
      .pure (.next (raw0, b1, r_5, IntKind.i64.wrap (k6 + 1)))) (
      .pure (.next (raw0, b1, rs5, IntKind.i64.wrap (k6 + 1))))) (
    .pure (.done (b1, rs5)))
noncomputable def law01_UtfBack_L14 (b1 : List Int) (rs5 : List Int) (back8 : List Int) (k10 : Int) : Tr (Lap (List Int × List Int × List Int × Int) (Sum (List Int) Bool)) :=
  .br (decide (k10 < (rs5.length : Int))) (
    .bnd (idx back8 k10) fun x_10 =>
    .bnd (idx rs5 k10) fun x_11 =>
    .br (x_10 != x_11) (
      .pure (.done (.inr false))) (
      .pure (.next (b1, rs5, back8, IntKind.i64.wrap (k10 + 1))))) (
    .pure (.done (.inl b1)))
noncomputable def law01_UtfBack_T (raw0 : List Int) (b1 : List Int) : Tr Bool :=
  .bnd law01_awake_F fun c_1 =>
  .br (!c_1) (
    .pure false) (
    .bnd (loopW (fun s => (law01_UtfBack_L5 s.1 s.2.1 s.2.2.1 s.2.2.2).run) (raw0, b1, [], 0)) fun l_6 =>
    .bnd (utf_Encode_F l_6.2) fun c_7 =>
    .bnd (utf_Decode_F c_7) fun c_8 =>
    .br ((c_8.1.length : Int) != (l_6.2.length : Int)) (
      .pure false) (
      .bnd (utf_Valid_F c_7) fun c_9 =>
      .br (!c_9) (
        .pure false) (
        .alt (loopW (fun s => (law01_UtfBack_L14 s.1 s.2.1 s.2.2.1 s.2.2.2).run) (l_6.1, l_6.2, c_8.1, 0)) (fun l_12 =>
          .bnd (utf_Decode_F l_12) fun c_13 =>
          .bnd (utf_Valid_F l_12) fun c_14 =>
          .bnd (utf_Encode_F c_13.1) fun c_15 =>
          .bnd (law01_same_F c_15 l_12) fun c_16 =>
          .pure (c_14 == c_16)) (fun l_17 =>
          .pure l_17))))
noncomputable def law01_UtfBack_F (raw0 : List Int) (b1 : List Int) : Option Bool := (law01_UtfBack_T raw0 b1).run
def law01_UtfBack_L : List (Nat × LoopAnn) := [(5, { head := [.sv 0 false (.sl (.int .i32)), .sv 1 false (.sl (.int .u8)), .srow 5 1000005 21 true (.int .i32), .sv 6 true (.int .i64)], xid := 0, out := [.sv 1 false (.sl (.int .u8)), .srow 5 1000005 21 true (.int .i32)], hasRet := false, res := [] }), (14, { head := [.sv 1 false (.sl (.int .u8)), .srow 5 1000005 21 true (.int .i32), .srow 8 1000008 21 true (.int .i32), .sv 10 true (.int .i64)], xid := 2, out := [.sv 1 false (.sl (.int .u8))], hasRet := true, res := [.sv 4 true .bool] })]
noncomputable def law01_UtfBack_C : List (Nat × Callee) := [(7, .plain law01_awake_fun), (12, .plain utf_Scalar_fun), (10, .plain utf_Encode_fun), (13, .plain utf_Decode_fun), (14, .plain utf_Valid_fun), (9, .plain law01_same_fun)]
noncomputable def law01_UtfBack_fun : Fun := ⟨[.sl (.int .i32), .sl (.int .u8)], [.v .bool], fun x => law01_UtfBack_F x.1 x.2.1⟩
theorem law01_UtfBack_ev (x : Tys.I [.sl (.int .i32), .sl (.int .u8)]) : evFun G0 (fun f => olook f law01_UtfBack_C) ⟨[], [], [], [], [], []⟩ (fun i => olook i law01_UtfBack_L) Try.f4 [.sl (.int .i32), .sl (.int .u8)] [.v .bool] x = law01_UtfBack_T x.1 x.2.1 := by kernel_rfl
theorem law01_UtfBack_ok : FunOk Try.prog 4 law01_UtfBack_fun := evFun_ok mixed ctx0 (cons_calls (fb := .plain law01_awake_fun) law01_awake_ok (fun h => by cases h) (cons_calls (fb := .plain utf_Scalar_fun) utf_Scalar_ok (fun h => by cases h) (cons_calls (fb := .plain utf_Encode_fun) utf_Encode_ok (fun h => by cases h) (cons_calls (fb := .plain utf_Decode_fun) utf_Decode_ok (fun h => by cases h) (cons_calls (fb := .plain utf_Valid_fun) utf_Valid_ok (fun h => by cases h) (cons_calls (fb := .plain law01_same_fun) law01_same_ok (fun h => by cases h) (no_calls))))))) Try.func4 (by kernel_rfl) _ (fun x => congrArg Tr.run (law01_UtfBack_ev x)) (by kernel_rfl) (by kernel_rfl)
/-! ### boustrophedon/boustrophedonlaw01.UtfJoin -/
noncomputable def law01_UtfJoin_L13 (a5 : List Int) (first6 : List Int) (second8 : List Int) (at9 : List Int) (rs11 : List Int) (starts12 : List Int) (k13 : Int) : Tr (Lap (List Int × List Int × List Int × List Int × List Int × List Int × Int) (Sum Unit Bool)) :=
  .br (decide (k13 < (rs11.length : Int))) (
    .br (decide (k13 < (first6.length : Int))) (
      .bnd (idx rs11 k13) fun x_8 =>
      .bnd (idx first6 k13) fun x_9 =>
      .br (x_8 != x_9) (
        .pure (.done (.inr false))) (
        .br (decide (k13 ≥ (first6.length : Int))) (
          .bnd (idx rs11 k13) fun x_10 =>
          .bnd (idx second8 (IntKind.i64.wrap (k13 - (first6.length : Int)))) fun x_11 =>
          .br (x_10 != x_11) (
            .pure (.done (.inr false))) (
            .bnd (idx starts12 k13) fun x_12 =>
            .bnd (idx at9 (IntKind.i64.wrap (k13 - (first6.length : Int)))) fun x_13 =>
            .br (x_12 != (IntKind.i64.wrap ((a5.length : Int) + x_13))) (
              .pure (.done (.inr false))) (
              .pure (.next (a5, first6, second8, at9, rs11, starts12, IntKind.i64.wrap (k13 + 1)))))) (
          .pure (.next (a5, first6, second8, at9, rs11, starts12, IntKind.i64.wrap (k13 + 1)))))) (
      .br (decide (k13 ≥ (first6.length : Int))) (
        .bnd (idx rs11 k13) fun x_14 =>
        .bnd (idx second8 (IntKind.i64.wrap (k13 - (first6.length : Int)))) fun x_15 =>
        .br (x_14 != x_15) (
          .pure (.done (.inr false))) (
          .bnd (idx starts12 k13) fun x_16 =>
          .bnd (idx at9 (IntKind.i64.wrap (k13 - (first6.length : Int)))) fun x_17 =>
          .br (x_16 != (IntKind.i64.wrap ((a5.length : Int) + x_17))) (
            .pure (.done (.inr false))) (
            .pure (.next (a5, first6, second8, at9, rs11, starts12, IntKind.i64.wrap (k13 + 1)))))) (
        .pure (.next (a5, first6, second8, at9, rs11, starts12, IntKind.i64.wrap (k13 + 1)))))) (
    .pure (.done (.inl ())))
noncomputable def law01_UtfJoin_T (raw0 : List Int) (b1 : List Int) : Tr Bool :=
  .bnd law01_awake_F fun c_1 =>
  .br (!c_1) (
    .pure false) (
    .bnd (utf_Encode_F raw0) fun c_2 =>
    .bnd (utf_Decode_F c_2) fun c_3 =>
    .bnd (utf_Decode_F b1) fun c_4 =>
    .bnd (app 140737488355328 [] c_2) fun r_5 =>
    .bnd (app 140737488355328 r_5 b1) fun r_6 =>
    .bnd (utf_Decode_F r_6) fun c_7 =>
    .br ((c_7.1.length : Int) != (IntKind.i64.wrap ((c_3.1.length : Int) + (c_4.1.length : Int)))) (
      .pure false) (
      .alt (loopW (fun s => (law01_UtfJoin_L13 s.1 s.2.1 s.2.2.1 s.2.2.2.1 s.2.2.2.2.1 s.2.2.2.2.2.1 s.2.2.2.2.2.2).run) (c_2, c_3.1, c_4.1, c_4.2, c_7.1, c_7.2, 0)) (fun l_18 =>
        .pure true) (fun l_19 =>
        .pure l_19)))
noncomputable def law01_UtfJoin_F (raw0 : List Int) (b1 : List Int) : Option Bool := (law01_UtfJoin_T raw0 b1).run
def law01_UtfJoin_L : List (Nat × LoopAnn) := [(13, { head := [.srow 5 1000005 5 true (.int .u8), .srow 6 1000006 21 true (.int .i32), .srow 8 1000008 21 true (.int .i32), .srow 9 1000009 3 true (.int .i64), .srow 11 1000011 21 true (.int .i32), .srow 12 1000012 3 true (.int .i64), .sv 13 true (.int .i64)], xid := 0, out := [], hasRet := true, res := [.sv 4 true .bool] })]
noncomputable def law01_UtfJoin_C : List (Nat × Callee) := [(7, .plain law01_awake_fun), (10, .plain utf_Encode_fun), (13, .plain utf_Decode_fun)]
noncomputable def law01_UtfJoin_fun : Fun := ⟨[.sl (.int .i32), .sl (.int .u8)], [.v .bool], fun x => law01_UtfJoin_F x.1 x.2.1⟩
theorem law01_UtfJoin_ev (x : Tys.I [.sl (.int .i32), .sl (.int .u8)]) : evFun G0 (fun f => olook f law01_UtfJoin_C) ⟨[], [], [], [], [], []⟩ (fun i => olook i law01_UtfJoin_L) Try.f5 [.sl (.int .i32), .sl (.int .u8)] [.v .bool] x = law01_UtfJoin_T x.1 x.2.1 := by kernel_rfl
theorem law01_UtfJoin_ok : FunOk Try.prog 5 law01_UtfJoin_fun := evFun_ok mixed ctx0 (cons_calls (fb := .plain law01_awake_fun) law01_awake_ok (fun h => by cases h) (cons_calls (fb := .plain utf_Encode_fun) utf_Encode_ok (fun h => by cases h) (cons_calls (fb := .plain utf_Decode_fun) utf_Decode_ok (fun h => by cases h) (no_calls)))) Try.func5 (by kernel_rfl) _ (fun x => congrArg Tr.run (law01_UtfJoin_ev x)) (by kernel_rfl) (by kernel_rfl)
/-! ### boustrophedon/boustrophedonlaw01.UtfSizes -/
noncomputable def law01_UtfSizes_L14 (r0 : Int) (b3 : List Int) (n4 : Int) (k5 : Int) : Tr (Lap (Int × List Int × Int × Int) (Sum (Int × List Int × Int) Bool)) :=
  .br (decide (k5 < (b3.length : Int))) (
    .bnd (utf_Next_F b3 k5) fun c_7 =>
    .br (c_7.1 != 65533) (
      .pure (.done (.inr false))) (
      .br (c_7.2 != 1) (
        .pure (.done (.inr false))) (
        .pure (.next (r0, b3, n4, IntKind.i64.wrap (k5 + 1)))))) (
    .pure (.done (.inl (r0, b3, n4))))
noncomputable def law01_UtfSizes_T (r0 : Int) : Tr Bool :=
  .bnd law01_awake_F fun c_1 =>
  .br (!c_1) (
    .pure false) (
    .bnd (utf_Scalar_F r0) fun c_2 =>
    .br (!c_2) (
      .bnd (utf_Put_F r0) fun c_3 =>
      .bnd (utf_Put_F 65533) fun c_4 =>
      .bnd (law01_same_F c_3 c_4) fun c_5 =>
      .pure c_5) (
      .bnd (utf_Put_F r0) fun c_6 =>
      .br (decide (r0 ≥ 128)) (
        .br (decide (r0 ≥ 2048)) (
          .br (decide (r0 ≥ 65536)) (
            .alt (loopW (fun s => (law01_UtfSizes_L14 s.1 s.2.1 s.2.2.1 s.2.2.2).run) (r0, c_6, IntKind.i64.wrap ((IntKind.i64.wrap ((IntKind.i64.wrap (1 + 1)) + 1)) + 1), 1)) (fun l_8 =>
              .bnd (utf_Next_F l_8.2.1 0) fun c_9 =>
              .br ((l_8.2.1.length : Int) == l_8.2.2) (
                .br (c_9.1 == l_8.1) (
                  .pure (c_9.2 == l_8.2.2)) (
                  .pure false)) (
                .pure false)) (fun l_10 =>
              .pure l_10)) (
            .alt (loopW (fun s => (law01_UtfSizes_L14 s.1 s.2.1 s.2.2.1 s.2.2.2).run) (r0, c_6, IntKind.i64.wrap ((IntKind.i64.wrap (1 + 1)) + 1), 1)) (fun l_11 =>
              .bnd (utf_Next_F l_11.2.1 0) fun c_12 =>
              .br ((l_11.2.1.length : Int) == l_11.2.2) (
                .br (c_12.1 == l_11.1) (
                  .pure (c_12.2 == l_11.2.2)) (
                  .pure false)) (
                .pure false)) (fun l_13 =>
              .pure l_13))) (
          .br (decide (r0 ≥ 65536)) (
            .alt (loopW (fun s => (law01_UtfSizes_L14 s.1 s.2.1 s.2.2.1 s.2.2.2).run) (r0, c_6, IntKind.i64.wrap ((IntKind.i64.wrap (1 + 1)) + 1), 1)) (fun l_14 =>
              .bnd (utf_Next_F l_14.2.1 0) fun c_15 =>
              .br ((l_14.2.1.length : Int) == l_14.2.2) (
                .br (c_15.1 == l_14.1) (
                  .pure (c_15.2 == l_14.2.2)) (
                  .pure false)) (
                .pure false)) (fun l_16 =>
              .pure l_16)) (
            .alt (loopW (fun s => (law01_UtfSizes_L14 s.1 s.2.1 s.2.2.1 s.2.2.2).run) (r0, c_6, IntKind.i64.wrap (1 + 1), 1)) (fun l_17 =>
              .bnd (utf_Next_F l_17.2.1 0) fun c_18 =>
              .br ((l_17.2.1.length : Int) == l_17.2.2) (
                .br (c_18.1 == l_17.1) (
                  .pure (c_18.2 == l_17.2.2)) (
                  .pure false)) (
                .pure false)) (fun l_19 =>
              .pure l_19)))) (
        .br (decide (r0 ≥ 2048)) (
          .br (decide (r0 ≥ 65536)) (
            .alt (loopW (fun s => (law01_UtfSizes_L14 s.1 s.2.1 s.2.2.1 s.2.2.2).run) (r0, c_6, IntKind.i64.wrap ((IntKind.i64.wrap (1 + 1)) + 1), 1)) (fun l_20 =>
              .bnd (utf_Next_F l_20.2.1 0) fun c_21 =>
              .br ((l_20.2.1.length : Int) == l_20.2.2) (
                .br (c_21.1 == l_20.1) (
                  .pure (c_21.2 == l_20.2.2)) (
                  .pure false)) (
                .pure false)) (fun l_22 =>
              .pure l_22)) (
            .alt (loopW (fun s => (law01_UtfSizes_L14 s.1 s.2.1 s.2.2.1 s.2.2.2).run) (r0, c_6, IntKind.i64.wrap (1 + 1), 1)) (fun l_23 =>
              .bnd (utf_Next_F l_23.2.1 0) fun c_24 =>
              .br ((l_23.2.1.length : Int) == l_23.2.2) (
                .br (c_24.1 == l_23.1) (
                  .pure (c_24.2 == l_23.2.2)) (
                  .pure false)) (
                .pure false)) (fun l_25 =>
              .pure l_25))) (
          .br (decide (r0 ≥ 65536)) (
            .alt (loopW (fun s => (law01_UtfSizes_L14 s.1 s.2.1 s.2.2.1 s.2.2.2).run) (r0, c_6, IntKind.i64.wrap (1 + 1), 1)) (fun l_26 =>
              .bnd (utf_Next_F l_26.2.1 0) fun c_27 =>
              .br ((l_26.2.1.length : Int) == l_26.2.2) (
                .br (c_27.1 == l_26.1) (
                  .pure (c_27.2 == l_26.2.2)) (
                  .pure false)) (
                .pure false)) (fun l_28 =>
              .pure l_28)) (
            .alt (loopW (fun s => (law01_UtfSizes_L14 s.1 s.2.1 s.2.2.1 s.2.2.2).run) (r0, c_6, 1, 1)) (fun l_29 =>
              .bnd (utf_Next_F l_29.2.1 0) fun c_30 =>
              .br ((l_29.2.1.length : Int) == l_29.2.2) (
                .br (c_30.1 == l_29.1) (
                  .pure (c_30.2 == l_29.2.2)) (
                  .pure false)) (
                .pure false)) (fun l_31 =>
              .pure l_31))))))
noncomputable def law01_UtfSizes_F (r0 : Int) : Option Bool := (law01_UtfSizes_T r0).run
def law01_UtfSizes_L : List (Nat × LoopAnn) := [(14, { head := [.sv 0 false (.int .i32), .srow 3 1000003 5 true (.int .u8), .sv 4 true (.int .i64), .sv 5 true (.int .i64)], xid := 0, out := [.sv 0 false (.int .i32), .srow 3 1000003 5 true (.int .u8), .sv 4 true (.int .i64)], hasRet := true, res := [.sv 2 true .bool] })]
noncomputable def law01_UtfSizes_C : List (Nat × Callee) := [(7, .plain law01_awake_fun), (12, .plain utf_Scalar_fun), (11, .plain utf_Put_fun), (9, .plain law01_same_fun), (15, .plain utf_Next_fun)]
noncomputable def law01_UtfSizes_fun : Fun := ⟨[.int .i32], [.v .bool], fun x => law01_UtfSizes_F x.1⟩
theorem law01_UtfSizes_ev (x : Tys.I [.int .i32]) : evFun G0 (fun f => olook f law01_UtfSizes_C) ⟨[], [], [], [], [], []⟩ (fun i => olook i law01_UtfSizes_L) Try.f6 [.int .i32] [.v .bool] x = law01_UtfSizes_T x.1 := by kernel_rfl
theorem law01_UtfSizes_ok : FunOk Try.prog 6 law01_UtfSizes_fun := evFun_ok mixed ctx0 (cons_calls (fb := .plain law01_awake_fun) law01_awake_ok (fun h => by cases h) (cons_calls (fb := .plain utf_Scalar_fun) utf_Scalar_ok (fun h => by cases h) (cons_calls (fb := .plain utf_Put_fun) utf_Put_ok (fun h => by cases h) (cons_calls (fb := .plain law01_same_fun) law01_same_ok (fun h => by cases h) (cons_calls (fb := .plain utf_Next_fun) utf_Next_ok (fun h => by cases h) (no_calls)))))) Try.func6 (by kernel_rfl) _ (fun x => congrArg Tr.run (law01_UtfSizes_ev x)) (by kernel_rfl) (by kernel_rfl)
end Go.Proofs.Ytecknolpakmlpaa
