import Derived.Test.YtenbhmjcoljddaaGreatDoorShA
namespace Go.Proofs.YtenbhmjcoljddaaGreatDoor
set_option maxRecDepth 100000
set_option linter.unusedVariables false
noncomputable def bidic_Of_L4 (table3 : List (Int × Int × Int)) (cs4 : List Int) (t11 : List Int) (t12 : Int) (t13 : Int) : Tr (Lap ((List (Int × Int × Int)) × List Int × List Int × Int × Int) (List Int)) :=
 .br (decide (t13 < t12)) (
  .bnd (idx t11 t13) fun x_3 =>
  .bnd (ranges_Find_F table3 x_3 0) fun c_4 =>
  .bnd (idx cs4 t13) fun x_5 =>
  .pure (.next (table3, cs4.set (Int.toNat t13) c_4, t11, t12, IntKind.i64.wrap (t13 + 1)))) (
  .pure (.done cs4))
noncomputable def bidic_Of_T (rs0 : List Int) : Tr (List Int) :=
 .bnd bidic_Table_F fun c_1 =>
 .bnd (mk 140737488355328 0 (rs0.length : Int)) fun r_2 =>
 .bnd (loopW (fun s => (bidic_Of_L4 s.1 s.2.1 s.2.2.1 s.2.2.2.1 s.2.2.2.2).run) (c_1, r_2, rs0, (rs0.length : Int), 0)) fun l_6 =>
 .pure l_6
noncomputable def bidic_Of_F (rs0 : List Int) : Option (List Int) := (bidic_Of_T rs0).run
def bidic_Of_L : List (Nat × LoopAnn) := [(4, { head := [.srow 3 1000003 141 true Td, .srow 4 1000004 41 true Ti, .sv 11 false Tg, .sv 12 true Th, .sv 13 true Th], xid := 0, out := [.srow 4 1000004 41 true Ti], hasRet := false, res := [] })]
noncomputable def bidic_Of_C : List (Nat × Callee) := [(69, .plain bidic_Table_fun), (70, .plain ranges_Find_fun)]
noncomputable def bidic_Of_fun : Fun := ⟨[.sl Tj], [.row 41 Ti], fun x => bidic_Of_F x.1⟩
theorem bidic_Of_ev (x : Tys.I [.sl Tj]) : evFun G0 (of_ bidic_Of_C) A0 (ol_ bidic_Of_L) Tryz.f28 [.sl Tj] [.row 41 Ti] x = bidic_Of_T x.1 := by kernel_rfl
theorem bidic_Of_ok : FunOk Tryz.prog 28 bidic_Of_fun := evFun_ok mixed ctx0 (pc bidic_Table_ok (pc ranges_Find_ok (no_calls))) Tryz.func28 (by kernel_rfl) _ (fun x => congrArg Tr.run (bidic_Of_ev x)) (by kernel_rfl) (by kernel_rfl)
noncomputable def levels_Of_L7 (rs0 : List Int) (d1 : Int) (t4 : List Int × List Int × (List (Int × Int × Int)) × List Int) (t9 : List Int × List Int × (List (Int × Int × Int)) × List Int) (t32 : Int) (t33 : Int) : Tr (Lap (List Int × Int × (List Int × List Int × (List (Int × Int × Int)) × List Int) × (List Int × List Int × (List (Int × Int × Int)) × List Int) × Int × Int) (Sum ((List Int × List Int × (List (Int × Int × Int)) × List Int) × List Int × List Int × (List (Int × Int × Int)) × List Int) ((List Int × List Int × (List (Int × Int × Int)) × List Int) × Option (Int × ByteArray × Int)))) :=
 .br (decide (t33 < t32)) (
  .bnd (idx t9.2.2.1 t33) fun x_4 =>
  .bnd (idx ([x_4]) 0) fun x_5 =>
  .bnd (idx ([x_4]) 0) fun x_6 =>
  .bnd (cut t9.1 x_5.1 x_6.2.1) fun r_7 =>
  .bnd (base_Level_F r_7 d1) fun c_8 =>
  .br c_8.2.isSome (
   .pure (.done (.inr (([], [], [], []), c_8.2)))) (
   .bnd (app 17592186044416 t9.2.2.2 ([c_8.1])) fun r_9 =>
   .bnd (idx ([x_4]) 0) fun x_10 =>
   .bnd (idx ([x_4]) 0) fun x_11 =>
   .bnd (cut rs0 x_10.1 x_11.2.1) fun r_12 =>
   .bnd (idx ([x_4]) 0) fun x_13 =>
   .bnd (idx ([x_4]) 0) fun x_14 =>
   .bnd (cut t9.1 x_13.1 x_14.2.1) fun r_15 =>
   .bnd (levels_Paragraph_F r_12 r_15 c_8.1) fun c_16 =>
   .bnd (app 17592186044416 t9.2.1 c_16) fun r_17 =>
   .pure (.next (rs0, d1, t4, (t9.1, r_17, t9.2.2.1, r_9), t32, IntKind.i64.wrap (t33 + 1))))) (
  .pure (.done (.inl (t4, (t9.1, t9.2.1, t9.2.2.1, t9.2.2.2)))))
noncomputable def levels_Of_T (rs0 : List Int) (d1 : Int) : Tr ((List Int × List Int × (List (Int × Int × Int)) × List Int) × Option (Int × ByteArray × Int)) :=
 .bnd (base_Level_F ([]) d1) fun c_1 =>
 .br c_1.2.isSome (
  .pure (([], [], [], []), c_1.2)) (
  .bnd (bidic_Of_F rs0) fun c_2 =>
  .bnd (para_Split_F rs0 c_2) fun c_3 =>
  .alt (loopW (fun s => (levels_Of_L7 s.1 s.2.1 s.2.2.1 s.2.2.2.1 s.2.2.2.2.1 s.2.2.2.2.2).run) (rs0, d1, ([], [], [], []), (c_2, [], c_3, []), (c_3.length : Int), 0)) (fun l_18 =>
   .pure ((l_18.2.1, l_18.2.2.1, l_18.2.2.2.1, l_18.2.2.2.2), none)) (fun l_19 =>
   .pure (l_19.1, l_19.2)))
noncomputable def levels_Of_F (rs0 : List Int) (d1 : Int) : Option ((List Int × List Int × (List (Int × Int × Int)) × List Int) × Option (Int × ByteArray × Int)) := (levels_Of_T rs0 d1).run
def levels_Of_L : List (Nat × LoopAnn) := [(7, { head := [.sv 0 false Tg, .sv 1 false Th, .sbox 4 1000004 33 true (.st (.pair Tf (.pair Te (.pair (.sl Tc) Te)))), .sboxh 9 1000009 33 (.st (.pair Tf (.pair Te (.pair (.sl Tc) Te)))) [(0, 41), (1, 3), (2, 47), (3, 3)] [(8, 0), (31, 2)], .sv 32 true Th, .sv 33 true Th], xid := 0, out := [.sbox 4 1000004 33 true (.st (.pair Tf (.pair Te (.pair (.sl Tc) Te)))), .sboxh 9 1000009 33 (.st (.pair Tf (.pair Te (.pair (.sl Tc) Te)))) [(0, 41), (1, 3), (2, 47), (3, 3)] []], hasRet := true, res := [.sbox 4 1000004 33 true (.st (.pair Tf (.pair Te (.pair (.sl Tc) Te)))), .sv 5 true (.err 116 40)] })]
noncomputable def levels_Of_C : List (Nat × Callee) := [(27, .plain base_Level_fun), (28, .plain bidic_Of_fun), (14, .plain para_Split_fun), (7, .plain levels_Paragraph_fun)]
noncomputable def levels_Of_fun : Fun := ⟨[.sl Tj, Th], [.v (.st (.pair Tf (.pair Te (.pair (.sl Tc) Te)))), .v (.err 116 40)], fun x => levels_Of_F x.1 x.2.1⟩
theorem levels_Of_ev (x : Tys.I [.sl Tj, Th]) : evFun G0 (of_ levels_Of_C) ⟨[], [], [], [], [], [(29, [(0, 41), (1, 3), (2, 47), (3, 3)]), (77, [(0, 41), (1, 3), (2, 47), (3, 3)])]⟩ (ol_ levels_Of_L) Tryz.f10 [.sl Tj, Th] [.v (.st (.pair Tf (.pair Te (.pair (.sl Tc) Te)))), .v (.err 116 40)] x = levels_Of_T x.1 x.2.1 := by kernel_rfl
theorem levels_Of_ok : FunOk Tryz.prog 10 levels_Of_fun := evFun_ok mixed ctx0 (pc base_Level_ok (pc bidic_Of_ok (pc para_Split_ok (pc levels_Paragraph_ok (no_calls))))) Tryz.func10 (by kernel_rfl) _ (fun x => congrArg Tr.run (levels_Of_ev x)) (by kernel_rfl) (by kernel_rfl)
noncomputable def law18_awake_T : Tr Bool :=
 .bnd (levels_Of_F ([97, 1488, 49]) 0) fun c_1 =>
 .bnd (levels_Of_F ([1488, 32, 97]) 0) fun c_2 =>
 .br c_1.2.isNone (
  .br c_2.2.isNone (
   .bnd (idx ([c_1.1]) 0) fun x_3 =>
   .br ((x_3.2.1.length : Int) == 3) (
    .bnd (idx ([c_1.1]) 0) fun x_4 =>
    .bnd (idx x_4.2.1 1) fun x_5 =>
    .br (x_5 == 1) (
     .bnd (idx ([c_1.1]) 0) fun x_6 =>
     .bnd (idx x_6.2.1 2) fun x_7 =>
     .br (x_7 == 2) (
      .bnd (idx ([c_2.1]) 0) fun x_8 =>
      .br ((x_8.2.1.length : Int) == 3) (
       .bnd (idx ([c_2.1]) 0) fun x_9 =>
       .bnd (idx x_9.2.1 1) fun x_10 =>
       .br (x_10 == 1) (
        .bnd (idx ([c_2.1]) 0) fun x_11 =>
        .bnd (idx x_11.2.1 2) fun x_12 =>
        .br (x_12 == 2) (
         .bnd (idx ([c_2.1]) 0) fun x_13 =>
         .br ((x_13.2.2.2.length : Int) == 1) (
          .bnd (idx ([c_2.1]) 0) fun x_14 =>
          .bnd (idx x_14.2.2.2 0) fun x_15 =>
          .pure (x_15 == 1)) (
          .pure false)) (
         .pure false)) (
        .pure false)) (
       .pure false)) (
      .pure false)) (
     .pure false)) (
    .pure false)) (
   .pure false)) (
  .pure false)
noncomputable def law18_awake_F : Option Bool := (law18_awake_T).run
def law18_awake_L : List (Nat × LoopAnn) := []
noncomputable def law18_awake_C : List (Nat × Callee) := [(10, .plain levels_Of_fun)]
noncomputable def law18_awake_fun : Fun := ⟨[], [.v .bool], fun _ => law18_awake_F⟩
theorem law18_awake_ev (x : Tys.I []) : evFun G0 (of_ law18_awake_C) A0 (ol_ law18_awake_L) Tryz.f5 [] [.v .bool] x = law18_awake_T := by kernel_rfl
theorem law18_awake_ok : FunOk Tryz.prog 5 law18_awake_fun := evFun_ok mixed ctx0 (pc levels_Of_ok (no_calls)) Tryz.func5 (by kernel_rfl) _ (fun x => congrArg Tr.run (law18_awake_ev x)) (by kernel_rfl) (by kernel_rfl)
noncomputable def law18_same_L4 (a0 : List Int) (b1 : List Int) (k5 : Int) : Tr (Lap (List Int × List Int × Int) (Sum Unit Bool)) :=
 .br (decide (k5 < (a0.length : Int))) (
  .bnd (idx a0 k5) fun x_1 =>
  .bnd (idx b1 k5) fun x_2 =>
  .br (x_1 != x_2) (
   .pure (.done (.inr false))) (
   .pure (.next (a0, b1, IntKind.i64.wrap (k5 + 1))))) (
  .pure (.done (.inl ())))
noncomputable def law18_same_T (a0 : List Int) (b1 : List Int) : Tr Bool :=
 .br ((a0.length : Int) != (b1.length : Int)) (
  .pure false) (
  .alt (loopW (fun s => (law18_same_L4 s.1 s.2.1 s.2.2).run) (a0, b1, 0)) (fun l_3 =>
   .pure true) (fun l_4 =>
   .pure l_4))
noncomputable def law18_same_F (a0 : List Int) (b1 : List Int) : Option Bool := (law18_same_T a0 b1).run
def law18_same_L : List (Nat × LoopAnn) := [(4, { head := [.sv 0 false Te, .sv 1 false Te, .sv 5 true Th], xid := 0, out := [], hasRet := true, res := [.sv 4 true .bool] })]
noncomputable def law18_same_C : List (Nat × Callee) := []
noncomputable def law18_same_fun : Fun := ⟨[.sl Th, .sl Th], [.v .bool], fun x => law18_same_F x.1 x.2.1⟩
theorem law18_same_ev (x : Tys.I [.sl Th, .sl Th]) : evFun G0 (of_ law18_same_C) A0 (ol_ law18_same_L) Tryz.f8 [.sl Th, .sl Th] [.v .bool] x = law18_same_T x.1 x.2.1 := by kernel_rfl
theorem law18_same_ok : FunOk Tryz.prog 8 law18_same_fun := evFun_ok mixed ctx0 (no_calls) Tryz.func8 (by kernel_rfl) _ (fun x => congrArg Tr.run (law18_same_ev x)) (by kernel_rfl) (by kernel_rfl)
noncomputable def law10_Ints_L3 (out3 : List Int) (t6 : List Int) (t7 : Int) (t8 : Int) : Tr (Lap (List Int × List Int × Int × Int) (List Int)) :=
 .br (decide (t8 < t7)) (
  .bnd (idx t6 t8) fun x_1 =>
  .bnd (app 17592186044416 out3 ([IntKind.i64.wrap x_1])) fun r_2 =>
  .pure (.next (r_2, t6, t7, IntKind.i64.wrap (t8 + 1)))) (
  .pure (.done out3))
noncomputable def law10_Ints_T (cs0 : List Int) : Tr (List Int) :=
 .bnd (loopW (fun s => (law10_Ints_L3 s.1 s.2.1 s.2.2.1 s.2.2.2).run) ([], cs0, (cs0.length : Int), 0)) fun l_3 =>
 .pure l_3
noncomputable def law10_Ints_F (cs0 : List Int) : Option (List Int) := (law10_Ints_T cs0).run
def law10_Ints_L : List (Nat × LoopAnn) := [(3, { head := [.srow 3 1000003 3 true Th, .sv 6 false Tf, .sv 7 true Th, .sv 8 true Th], xid := 0, out := [.srow 3 1000003 3 true Th], hasRet := false, res := [] })]
noncomputable def law10_Ints_C : List (Nat × Callee) := []
noncomputable def law10_Ints_fun : Fun := ⟨[.sl Ti], [.row 3 Th], fun x => law10_Ints_F x.1⟩
theorem law10_Ints_ev (x : Tys.I [.sl Ti]) : evFun G0 (of_ law10_Ints_C) A0 (ol_ law10_Ints_L) Tryz.f16 [.sl Ti] [.row 3 Th] x = law10_Ints_T x.1 := by kernel_rfl
theorem law10_Ints_ok : FunOk Tryz.prog 16 law10_Ints_fun := evFun_ok mixed ctx0 (no_calls) Tryz.func16 (by kernel_rfl) _ (fun x => congrArg Tr.run (law10_Ints_ev x)) (by kernel_rfl) (by kernel_rfl)
noncomputable def ref10_beginning_T (c0 : Int) : Tr Bool :=
 .br (decide (c0 ≥ 19)) (
  .pure (decide (c0 ≤ 21))) (
  .pure false)
noncomputable def ref10_beginning_F (c0 : Int) : Option Bool := (ref10_beginning_T c0).run
def ref10_beginning_L : List (Nat × LoopAnn) := []
noncomputable def ref10_beginning_C : List (Nat × Callee) := []
noncomputable def ref10_beginning_fun : Fun := ⟨[Th], [.v .bool], fun x => ref10_beginning_F x.1⟩
theorem ref10_beginning_ev (x : Tys.I [Th]) : evFun G0 (of_ ref10_beginning_C) A0 (ol_ ref10_beginning_L) Tryz.f32 [Th] [.v .bool] x = ref10_beginning_T x.1 := by kernel_rfl
theorem ref10_beginning_ok : FunOk Tryz.prog 32 ref10_beginning_fun := evFun_ok mixed ctx0 (no_calls) Tryz.func32 (by kernel_rfl) _ (fun x => congrArg Tr.run (ref10_beginning_ev x)) (by kernel_rfl) (by kernel_rfl)
noncomputable def ref10_Close_L3 (cs0 : List Int) (n5 : Int) (k6 : Int) : Tr (Lap (List Int × Int × Int) (Sum (List Int) Int)) :=
 .br (decide (k6 < (cs0.length : Int))) (
  .bnd (idx cs0 k6) fun x_1 =>
  .bnd (ref10_beginning_F x_1) fun c_2 =>
  .br c_2 (
   .bnd (idx cs0 k6) fun x_3 =>
   .br (x_3 == 22) (
    .br ((IntKind.i64.wrap ((IntKind.i64.wrap (n5 + 1)) - 1)) == 0) (
     .pure (.done (.inr k6))) (
     .pure (.next (cs0, IntKind.i64.wrap ((IntKind.i64.wrap (n5 + 1)) - 1), IntKind.i64.wrap (k6 + 1))))) (
    .pure (.next (cs0, IntKind.i64.wrap (n5 + 1), IntKind.i64.wrap (k6 + 1))))) (
   .bnd (idx cs0 k6) fun x_4 =>
   .br (x_4 == 22) (
    .br ((IntKind.i64.wrap (n5 - 1)) == 0) (
     .pure (.done (.inr k6))) (
     .pure (.next (cs0, IntKind.i64.wrap (n5 - 1), IntKind.i64.wrap (k6 + 1))))) (
    .pure (.next (cs0, n5, IntKind.i64.wrap (k6 + 1)))))) (
  .pure (.done (.inl cs0)))
noncomputable def ref10_Close_T (cs0 : List Int) (at1 : Int) : Tr Int :=
 .alt (loopW (fun s => (ref10_Close_L3 s.1 s.2.1 s.2.2).run) (cs0, 0, at1)) (fun l_5 =>
  .pure (l_5.length : Int)) (fun l_6 =>
  .pure l_6)
noncomputable def ref10_Close_F (cs0 : List Int) (at1 : Int) : Option Int := (ref10_Close_T cs0 at1).run
def ref10_Close_L : List (Nat × LoopAnn) := [(3, { head := [.sv 0 false Te, .sv 5 true Th, .sv 6 false Th], xid := 0, out := [.sv 0 false Te], hasRet := true, res := [.sv 4 false Th] })]
noncomputable def ref10_Close_C : List (Nat × Callee) := [(32, .plain ref10_beginning_fun)]
noncomputable def ref10_Close_fun : Fun := ⟨[.sl Th, Th], [.v Th], fun x => ref10_Close_F x.1 x.2.1⟩
theorem ref10_Close_ev (x : Tys.I [.sl Th, Th]) : evFun G0 (of_ ref10_Close_C) A0 (ol_ ref10_Close_L) Tryz.f33 [.sl Th, Th] [.v Th] x = ref10_Close_T x.1 x.2.1 := by kernel_rfl
theorem ref10_Close_ok : FunOk Tryz.prog 33 ref10_Close_fun := evFun_ok mixed ctx0 (pc ref10_beginning_ok (no_calls)) Tryz.func33 (by kernel_rfl) _ (fun x => congrArg Tr.run (ref10_Close_ev x)) (by kernel_rfl) (by kernel_rfl)
noncomputable def ref10_First_L2 (cs0 : List Int) (inside1 : Bool) (other2 : Int) (k7 : Int) : Tr (Lap (List Int × Bool × Int × Int) (Sum Int Int)) :=
 .br (decide (k7 < (cs0.length : Int))) (
  .bnd (idx cs0 k7) fun x_1 =>
  .bnd (ref10_beginning_F x_1) fun c_2 =>
  .br c_2 (
   .bnd (ref10_Close_F cs0 k7) fun c_3 =>
   .pure (.next (cs0, inside1, other2, IntKind.i64.wrap (c_3 + 1)))) (
   .bnd (idx cs0 k7) fun x_4 =>
   .br (x_4 == 22) (
    .br inside1 (
     .pure (.done (.inr other2))) (
     .bnd (idx cs0 k7) fun x_5 =>
     .br (x_5 == 0) (
      .pure (.done (.inr 0))) (
      .bnd (idx cs0 k7) fun x_6 =>
      .br (x_6 == 1) (
       .pure (.done (.inr 1))) (
       .bnd (idx cs0 k7) fun x_7 =>
       .br (x_7 == 2) (
        .pure (.done (.inr 1))) (
        .pure (.next (cs0, inside1, other2, IntKind.i64.wrap (k7 + 1)))))))) (
    .bnd (idx cs0 k7) fun x_8 =>
    .br (x_8 == 0) (
     .pure (.done (.inr 0))) (
     .bnd (idx cs0 k7) fun x_9 =>
     .br (x_9 == 1) (
      .pure (.done (.inr 1))) (
      .bnd (idx cs0 k7) fun x_10 =>
      .br (x_10 == 2) (
       .pure (.done (.inr 1))) (
       .pure (.next (cs0, inside1, other2, IntKind.i64.wrap (k7 + 1))))))))) (
  .pure (.done (.inl other2)))
noncomputable def ref10_First_T (cs0 : List Int) (inside1 : Bool) (other2 : Int) : Tr Int :=
 .alt (loopW (fun s => (ref10_First_L2 s.1 s.2.1 s.2.2.1 s.2.2.2).run) (cs0, inside1, other2, 0)) (fun l_11 =>
  .pure l_11) (fun l_12 =>
  .pure l_12)
noncomputable def ref10_First_F (cs0 : List Int) (inside1 : Bool) (other2 : Int) : Option Int := (ref10_First_T cs0 inside1 other2).run
def ref10_First_L : List (Nat × LoopAnn) := [(2, { head := [.sv 0 false Te, .sv 1 false .bool, .sv 2 false Th, .sv 7 true Th], xid := 0, out := [.sv 2 false Th], hasRet := true, res := [.sv 6 false Th] })]
noncomputable def ref10_First_C : List (Nat × Callee) := [(32, .plain ref10_beginning_fun), (33, .plain ref10_Close_fun)]
noncomputable def ref10_First_fun : Fun := ⟨[.sl Th, .bool, Th], [.v Th], fun x => ref10_First_F x.1 x.2.1 x.2.2.1⟩
theorem ref10_First_ev (x : Tys.I [.sl Th, .bool, Th]) : evFun G0 (of_ ref10_First_C) A0 (ol_ ref10_First_L) Tryz.f15 [.sl Th, .bool, Th] [.v Th] x = ref10_First_T x.1 x.2.1 x.2.2.1 := by kernel_rfl
theorem ref10_First_ok : FunOk Tryz.prog 15 ref10_First_fun := evFun_ok mixed ctx0 (pc ref10_beginning_ok (pc ref10_Close_ok (no_calls))) Tryz.func15 (by kernel_rfl) _ (fun x => congrArg Tr.run (ref10_First_ev x)) (by kernel_rfl) (by kernel_rfl)
noncomputable def ref10_up_T (l0 : Int) (odd1 : Bool) : Tr Int :=
 .br (!((((IntKind.i64.wrap (l0 + 1)).tmod 2) == 1) == odd1)) (
  .pure (IntKind.i64.wrap ((IntKind.i64.wrap (l0 + 1)) + 1))) (
  .pure (IntKind.i64.wrap (l0 + 1)))
noncomputable def ref10_up_F (l0 : Int) (odd1 : Bool) : Option Int := (ref10_up_T l0 odd1).run
def ref10_up_L : List (Nat × LoopAnn) := []
noncomputable def ref10_up_C : List (Nat × Callee) := []
noncomputable def ref10_up_fun : Fun := ⟨[Th, .bool], [.v Th], fun x => ref10_up_F x.1 x.2.1⟩
theorem ref10_up_ev (x : Tys.I [Th, .bool]) : evFun G0 (of_ ref10_up_C) A0 (ol_ ref10_up_L) Tryz.f54 [Th, .bool] [.v Th] x = ref10_up_T x.1 x.2.1 := by kernel_rfl
theorem ref10_up_ok : FunOk Tryz.prog 54 ref10_up_fun := evFun_ok mixed ctx0 (no_calls) Tryz.func54 (by kernel_rfl) _ (fun x => congrArg Tr.run (ref10_up_ev x)) (by kernel_rfl) (by kernel_rfl)
noncomputable def ref10_Resolve_L43 (cs0 : List Int) (paragraph1 : Int) (stack6 : List (Int × Int × Bool)) (overIsolates7 : Int) (overEmbeddings8 : Int) (validIsolates9 : Int) (levels10 : List Int) (out11 : List Int) (k12 : Int) (top14 : Int × Int × Bool) : Tr (Lap (List Int × Int × (List (Int × Int × Bool)) × Int × Int × Int × List Int × List Int × Int × Int × Int × Bool) (List Int × Int × (List (Int × Int × Bool)) × Int × Int × Int × List Int × List Int × Int × Int × Int × Bool)) :=
 .bnd (idx stack6 (IntKind.i64.wrap ((stack6.length : Int) - 1))) fun x_42 =>
 .br (!x_42.2.2) (
  .bnd (cut stack6 0 (IntKind.i64.wrap ((stack6.length : Int) - 1))) fun r_43 =>
  .pure (.next (cs0, paragraph1, r_43, overIsolates7, overEmbeddings8, validIsolates9, levels10, out11, k12, top14))) (
  .pure (.done (cs0, paragraph1, stack6, overIsolates7, overEmbeddings8, validIsolates9, levels10, out11, k12, top14)))
noncomputable def ref10_Resolve_L8 (cs0 : List Int) (paragraph1 : Int) (stack6 : List (Int × Int × Bool)) (overIsolates7 : Int) (overEmbeddings8 : Int) (validIsolates9 : Int) (levels10 : List Int) (out11 : List Int) (k12 : Int) : Tr (Lap (List Int × Int × (List (Int × Int × Bool)) × Int × Int × Int × List Int × List Int × Int) (List Int × List Int)) :=
 .br (decide (k12 < (cs0.length : Int))) (
  .bnd (idx cs0 k12) fun x_3 =>
  .bnd (idx stack6 (IntKind.i64.wrap ((stack6.length : Int) - 1))) fun x_4 =>
  .bnd (idx out11 k12) fun x_5 =>
  .br (decide (x_3 ≥ 14)) (
   .br (decide (x_3 ≤ 17)) (
    .bnd (idx levels10 k12) fun x_6 =>
    .bnd (idx ([x_4]) 0) fun x_7 =>
    .br (x_3 == 16) (
     .bnd (ref10_up_F x_7.1 true) fun c_8 =>
     .br (x_3 == 15) (
      .br (x_3 == 17) (
       .br (decide (c_8 ≤ 125)) (
        .br (overIsolates7 == 0) (
         .br (overEmbeddings8 == 0) (
          .bnd (app 5864062014805 stack6 ([(c_8, (1 : Int), false)])) fun r_9 =>
          .pure (.next (cs0, paragraph1, r_9, overIsolates7, overEmbeddings8, validIsolates9, levels10.set (Int.toNat k12) (-1), out11.set (Int.toNat k12) x_3, IntKind.i64.wrap (k12 + 1)))) (
          .br (overIsolates7 == 0) (
           .pure (.next (cs0, paragraph1, stack6, overIsolates7, IntKind.i64.wrap (overEmbeddings8 + 1), validIsolates9, levels10.set (Int.toNat k12) (-1), out11.set (Int.toNat k12) x_3, IntKind.i64.wrap (k12 + 1)))) (
           .pure (.next (cs0, paragraph1, stack6, overIsolates7, overEmbeddings8, validIsolates9, levels10.set (Int.toNat k12) (-1), out11.set (Int.toNat k12) x_3, IntKind.i64.wrap (k12 + 1)))))) (
         .br (overIsolates7 == 0) (
          .pure (.next (cs0, paragraph1, stack6, overIsolates7, IntKind.i64.wrap (overEmbeddings8 + 1), validIsolates9, levels10.set (Int.toNat k12) (-1), out11.set (Int.toNat k12) x_3, IntKind.i64.wrap (k12 + 1)))) (
          .pure (.next (cs0, paragraph1, stack6, overIsolates7, overEmbeddings8, validIsolates9, levels10.set (Int.toNat k12) (-1), out11.set (Int.toNat k12) x_3, IntKind.i64.wrap (k12 + 1)))))) (
        .br (overIsolates7 == 0) (
         .pure (.next (cs0, paragraph1, stack6, overIsolates7, IntKind.i64.wrap (overEmbeddings8 + 1), validIsolates9, levels10.set (Int.toNat k12) (-1), out11.set (Int.toNat k12) x_3, IntKind.i64.wrap (k12 + 1)))) (
         .pure (.next (cs0, paragraph1, stack6, overIsolates7, overEmbeddings8, validIsolates9, levels10.set (Int.toNat k12) (-1), out11.set (Int.toNat k12) x_3, IntKind.i64.wrap (k12 + 1)))))) (
       .br (decide (c_8 ≤ 125)) (
        .br (overIsolates7 == 0) (
         .br (overEmbeddings8 == 0) (
          .bnd (app 5864062014805 stack6 ([(c_8, (0 : Int), false)])) fun r_10 =>
          .pure (.next (cs0, paragraph1, r_10, overIsolates7, overEmbeddings8, validIsolates9, levels10.set (Int.toNat k12) (-1), out11.set (Int.toNat k12) x_3, IntKind.i64.wrap (k12 + 1)))) (
          .br (overIsolates7 == 0) (
           .pure (.next (cs0, paragraph1, stack6, overIsolates7, IntKind.i64.wrap (overEmbeddings8 + 1), validIsolates9, levels10.set (Int.toNat k12) (-1), out11.set (Int.toNat k12) x_3, IntKind.i64.wrap (k12 + 1)))) (
           .pure (.next (cs0, paragraph1, stack6, overIsolates7, overEmbeddings8, validIsolates9, levels10.set (Int.toNat k12) (-1), out11.set (Int.toNat k12) x_3, IntKind.i64.wrap (k12 + 1)))))) (
         .br (overIsolates7 == 0) (
          .pure (.next (cs0, paragraph1, stack6, overIsolates7, IntKind.i64.wrap (overEmbeddings8 + 1), validIsolates9, levels10.set (Int.toNat k12) (-1), out11.set (Int.toNat k12) x_3, IntKind.i64.wrap (k12 + 1)))) (
          .pure (.next (cs0, paragraph1, stack6, overIsolates7, overEmbeddings8, validIsolates9, levels10.set (Int.toNat k12) (-1), out11.set (Int.toNat k12) x_3, IntKind.i64.wrap (k12 + 1)))))) (
        .br (overIsolates7 == 0) (
         .pure (.next (cs0, paragraph1, stack6, overIsolates7, IntKind.i64.wrap (overEmbeddings8 + 1), validIsolates9, levels10.set (Int.toNat k12) (-1), out11.set (Int.toNat k12) x_3, IntKind.i64.wrap (k12 + 1)))) (
         .pure (.next (cs0, paragraph1, stack6, overIsolates7, overEmbeddings8, validIsolates9, levels10.set (Int.toNat k12) (-1), out11.set (Int.toNat k12) x_3, IntKind.i64.wrap (k12 + 1))))))) (
      .br (x_3 == 17) (
       .br (decide (c_8 ≤ 125)) (
        .br (overIsolates7 == 0) (
         .br (overEmbeddings8 == 0) (
          .bnd (app 5864062014805 stack6 ([(c_8, (1 : Int), false)])) fun r_11 =>
          .pure (.next (cs0, paragraph1, r_11, overIsolates7, overEmbeddings8, validIsolates9, levels10.set (Int.toNat k12) (-1), out11.set (Int.toNat k12) x_3, IntKind.i64.wrap (k12 + 1)))) (
          .br (overIsolates7 == 0) (
           .pure (.next (cs0, paragraph1, stack6, overIsolates7, IntKind.i64.wrap (overEmbeddings8 + 1), validIsolates9, levels10.set (Int.toNat k12) (-1), out11.set (Int.toNat k12) x_3, IntKind.i64.wrap (k12 + 1)))) (
           .pure (.next (cs0, paragraph1, stack6, overIsolates7, overEmbeddings8, validIsolates9, levels10.set (Int.toNat k12) (-1), out11.set (Int.toNat k12) x_3, IntKind.i64.wrap (k12 + 1)))))) (
         .br (overIsolates7 == 0) (
          .pure (.next (cs0, paragraph1, stack6, overIsolates7, IntKind.i64.wrap (overEmbeddings8 + 1), validIsolates9, levels10.set (Int.toNat k12) (-1), out11.set (Int.toNat k12) x_3, IntKind.i64.wrap (k12 + 1)))) (
          .pure (.next (cs0, paragraph1, stack6, overIsolates7, overEmbeddings8, validIsolates9, levels10.set (Int.toNat k12) (-1), out11.set (Int.toNat k12) x_3, IntKind.i64.wrap (k12 + 1)))))) (
        .br (overIsolates7 == 0) (
         .pure (.next (cs0, paragraph1, stack6, overIsolates7, IntKind.i64.wrap (overEmbeddings8 + 1), validIsolates9, levels10.set (Int.toNat k12) (-1), out11.set (Int.toNat k12) x_3, IntKind.i64.wrap (k12 + 1)))) (
         .pure (.next (cs0, paragraph1, stack6, overIsolates7, overEmbeddings8, validIsolates9, levels10.set (Int.toNat k12) (-1), out11.set (Int.toNat k12) x_3, IntKind.i64.wrap (k12 + 1)))))) (
       .br (decide (c_8 ≤ 125)) (
        .br (overIsolates7 == 0) (
         .br (overEmbeddings8 == 0) (
          .bnd (app 5864062014805 stack6 ([(c_8, ((-1) : Int), false)])) fun r_12 =>
          .pure (.next (cs0, paragraph1, r_12, overIsolates7, overEmbeddings8, validIsolates9, levels10.set (Int.toNat k12) (-1), out11.set (Int.toNat k12) x_3, IntKind.i64.wrap (k12 + 1)))) (
          .br (overIsolates7 == 0) (
           .pure (.next (cs0, paragraph1, stack6, overIsolates7, IntKind.i64.wrap (overEmbeddings8 + 1), validIsolates9, levels10.set (Int.toNat k12) (-1), out11.set (Int.toNat k12) x_3, IntKind.i64.wrap (k12 + 1)))) (
           .pure (.next (cs0, paragraph1, stack6, overIsolates7, overEmbeddings8, validIsolates9, levels10.set (Int.toNat k12) (-1), out11.set (Int.toNat k12) x_3, IntKind.i64.wrap (k12 + 1)))))) (
         .br (overIsolates7 == 0) (
          .pure (.next (cs0, paragraph1, stack6, overIsolates7, IntKind.i64.wrap (overEmbeddings8 + 1), validIsolates9, levels10.set (Int.toNat k12) (-1), out11.set (Int.toNat k12) x_3, IntKind.i64.wrap (k12 + 1)))) (
          .pure (.next (cs0, paragraph1, stack6, overIsolates7, overEmbeddings8, validIsolates9, levels10.set (Int.toNat k12) (-1), out11.set (Int.toNat k12) x_3, IntKind.i64.wrap (k12 + 1)))))) (
        .br (overIsolates7 == 0) (
         .pure (.next (cs0, paragraph1, stack6, overIsolates7, IntKind.i64.wrap (overEmbeddings8 + 1), validIsolates9, levels10.set (Int.toNat k12) (-1), out11.set (Int.toNat k12) x_3, IntKind.i64.wrap (k12 + 1)))) (
         .pure (.next (cs0, paragraph1, stack6, overIsolates7, overEmbeddings8, validIsolates9, levels10.set (Int.toNat k12) (-1), out11.set (Int.toNat k12) x_3, IntKind.i64.wrap (k12 + 1)))))))) (
     .bnd (ref10_up_F x_7.1 (x_3 == 17)) fun c_13 =>
     .br (x_3 == 15) (
      .br (x_3 == 17) (
       .br (decide (c_13 ≤ 125)) (
        .br (overIsolates7 == 0) (
         .br (overEmbeddings8 == 0) (
          .bnd (app 5864062014805 stack6 ([(c_13, (1 : Int), false)])) fun r_14 =>
          .pure (.next (cs0, paragraph1, r_14, overIsolates7, overEmbeddings8, validIsolates9, levels10.set (Int.toNat k12) (-1), out11.set (Int.toNat k12) x_3, IntKind.i64.wrap (k12 + 1)))) (
          .br (overIsolates7 == 0) (
           .pure (.next (cs0, paragraph1, stack6, overIsolates7, IntKind.i64.wrap (overEmbeddings8 + 1), validIsolates9, levels10.set (Int.toNat k12) (-1), out11.set (Int.toNat k12) x_3, IntKind.i64.wrap (k12 + 1)))) (
           .pure (.next (cs0, paragraph1, stack6, overIsolates7, overEmbeddings8, validIsolates9, levels10.set (Int.toNat k12) (-1), out11.set (Int.toNat k12) x_3, IntKind.i64.wrap (k12 + 1)))))) (
         .br (overIsolates7 == 0) (
          .pure (.next (cs0, paragraph1, stack6, overIsolates7, IntKind.i64.wrap (overEmbeddings8 + 1), validIsolates9, levels10.set (Int.toNat k12) (-1), out11.set (Int.toNat k12) x_3, IntKind.i64.wrap (k12 + 1)))) (
          .pure (.next (cs0, paragraph1, stack6, overIsolates7, overEmbeddings8, validIsolates9, levels10.set (Int.toNat k12) (-1), out11.set (Int.toNat k12) x_3, IntKind.i64.wrap (k12 + 1)))))) (
        .br (overIsolates7 == 0) (
         .pure (.next (cs0, paragraph1, stack6, overIsolates7, IntKind.i64.wrap (overEmbeddings8 + 1), validIsolates9, levels10.set (Int.toNat k12) (-1), out11.set (Int.toNat k12) x_3, IntKind.i64.wrap (k12 + 1)))) (
         .pure (.next (cs0, paragraph1, stack6, overIsolates7, overEmbeddings8, validIsolates9, levels10.set (Int.toNat k12) (-1), out11.set (Int.toNat k12) x_3, IntKind.i64.wrap (k12 + 1)))))) (
       .br (decide (c_13 ≤ 125)) (
        .br (overIsolates7 == 0) (
         .br (overEmbeddings8 == 0) (
          .bnd (app 5864062014805 stack6 ([(c_13, (0 : Int), false)])) fun r_15 =>
          .pure (.next (cs0, paragraph1, r_15, overIsolates7, overEmbeddings8, validIsolates9, levels10.set (Int.toNat k12) (-1), out11.set (Int.toNat k12) x_3, IntKind.i64.wrap (k12 + 1)))) (
          .br (overIsolates7 == 0) (
           .pure (.next (cs0, paragraph1, stack6, overIsolates7, IntKind.i64.wrap (overEmbeddings8 + 1), validIsolates9, levels10.set (Int.toNat k12) (-1), out11.set (Int.toNat k12) x_3, IntKind.i64.wrap (k12 + 1)))) (
           .pure (.next (cs0, paragraph1, stack6, overIsolates7, overEmbeddings8, validIsolates9, levels10.set (Int.toNat k12) (-1), out11.set (Int.toNat k12) x_3, IntKind.i64.wrap (k12 + 1)))))) (
         .br (overIsolates7 == 0) (
          .pure (.next (cs0, paragraph1, stack6, overIsolates7, IntKind.i64.wrap (overEmbeddings8 + 1), validIsolates9, levels10.set (Int.toNat k12) (-1), out11.set (Int.toNat k12) x_3, IntKind.i64.wrap (k12 + 1)))) (
          .pure (.next (cs0, paragraph1, stack6, overIsolates7, overEmbeddings8, validIsolates9, levels10.set (Int.toNat k12) (-1), out11.set (Int.toNat k12) x_3, IntKind.i64.wrap (k12 + 1)))))) (
        .br (overIsolates7 == 0) (
         .pure (.next (cs0, paragraph1, stack6, overIsolates7, IntKind.i64.wrap (overEmbeddings8 + 1), validIsolates9, levels10.set (Int.toNat k12) (-1), out11.set (Int.toNat k12) x_3, IntKind.i64.wrap (k12 + 1)))) (
         .pure (.next (cs0, paragraph1, stack6, overIsolates7, overEmbeddings8, validIsolates9, levels10.set (Int.toNat k12) (-1), out11.set (Int.toNat k12) x_3, IntKind.i64.wrap (k12 + 1))))))) (
      .br (x_3 == 17) (
       .br (decide (c_13 ≤ 125)) (
        .br (overIsolates7 == 0) (
         .br (overEmbeddings8 == 0) (
          .bnd (app 5864062014805 stack6 ([(c_13, (1 : Int), false)])) fun r_16 =>
          .pure (.next (cs0, paragraph1, r_16, overIsolates7, overEmbeddings8, validIsolates9, levels10.set (Int.toNat k12) (-1), out11.set (Int.toNat k12) x_3, IntKind.i64.wrap (k12 + 1)))) (
          .br (overIsolates7 == 0) (
           .pure (.next (cs0, paragraph1, stack6, overIsolates7, IntKind.i64.wrap (overEmbeddings8 + 1), validIsolates9, levels10.set (Int.toNat k12) (-1), out11.set (Int.toNat k12) x_3, IntKind.i64.wrap (k12 + 1)))) (
           .pure (.next (cs0, paragraph1, stack6, overIsolates7, overEmbeddings8, validIsolates9, levels10.set (Int.toNat k12) (-1), out11.set (Int.toNat k12) x_3, IntKind.i64.wrap (k12 + 1)))))) (
         .br (overIsolates7 == 0) (
          .pure (.next (cs0, paragraph1, stack6, overIsolates7, IntKind.i64.wrap (overEmbeddings8 + 1), validIsolates9, levels10.set (Int.toNat k12) (-1), out11.set (Int.toNat k12) x_3, IntKind.i64.wrap (k12 + 1)))) (
          .pure (.next (cs0, paragraph1, stack6, overIsolates7, overEmbeddings8, validIsolates9, levels10.set (Int.toNat k12) (-1), out11.set (Int.toNat k12) x_3, IntKind.i64.wrap (k12 + 1)))))) (
        .br (overIsolates7 == 0) (
         .pure (.next (cs0, paragraph1, stack6, overIsolates7, IntKind.i64.wrap (overEmbeddings8 + 1), validIsolates9, levels10.set (Int.toNat k12) (-1), out11.set (Int.toNat k12) x_3, IntKind.i64.wrap (k12 + 1)))) (
         .pure (.next (cs0, paragraph1, stack6, overIsolates7, overEmbeddings8, validIsolates9, levels10.set (Int.toNat k12) (-1), out11.set (Int.toNat k12) x_3, IntKind.i64.wrap (k12 + 1)))))) (
       .br (decide (c_13 ≤ 125)) (
        .br (overIsolates7 == 0) (
         .br (overEmbeddings8 == 0) (
          .bnd (app 5864062014805 stack6 ([(c_13, ((-1) : Int), false)])) fun r_17 =>
          .pure (.next (cs0, paragraph1, r_17, overIsolates7, overEmbeddings8, validIsolates9, levels10.set (Int.toNat k12) (-1), out11.set (Int.toNat k12) x_3, IntKind.i64.wrap (k12 + 1)))) (
          .br (overIsolates7 == 0) (
           .pure (.next (cs0, paragraph1, stack6, overIsolates7, IntKind.i64.wrap (overEmbeddings8 + 1), validIsolates9, levels10.set (Int.toNat k12) (-1), out11.set (Int.toNat k12) x_3, IntKind.i64.wrap (k12 + 1)))) (
           .pure (.next (cs0, paragraph1, stack6, overIsolates7, overEmbeddings8, validIsolates9, levels10.set (Int.toNat k12) (-1), out11.set (Int.toNat k12) x_3, IntKind.i64.wrap (k12 + 1)))))) (
         .br (overIsolates7 == 0) (
          .pure (.next (cs0, paragraph1, stack6, overIsolates7, IntKind.i64.wrap (overEmbeddings8 + 1), validIsolates9, levels10.set (Int.toNat k12) (-1), out11.set (Int.toNat k12) x_3, IntKind.i64.wrap (k12 + 1)))) (
          .pure (.next (cs0, paragraph1, stack6, overIsolates7, overEmbeddings8, validIsolates9, levels10.set (Int.toNat k12) (-1), out11.set (Int.toNat k12) x_3, IntKind.i64.wrap (k12 + 1)))))) (
        .br (overIsolates7 == 0) (
         .pure (.next (cs0, paragraph1, stack6, overIsolates7, IntKind.i64.wrap (overEmbeddings8 + 1), validIsolates9, levels10.set (Int.toNat k12) (-1), out11.set (Int.toNat k12) x_3, IntKind.i64.wrap (k12 + 1)))) (
         .pure (.next (cs0, paragraph1, stack6, overIsolates7, overEmbeddings8, validIsolates9, levels10.set (Int.toNat k12) (-1), out11.set (Int.toNat k12) x_3, IntKind.i64.wrap (k12 + 1))))))))) (
    .bnd (ref10_beginning_F x_3) fun c_18 =>
    .br c_18 (
     .bnd (idx ([x_4]) 0) fun x_19 =>
     .bnd (idx levels10 k12) fun x_20 =>
     .bnd (idx ([x_4]) 0) fun x_21 =>
     .br (decide (x_21.2.1 ≥ 0)) (
      .bnd (idx ([x_4]) 0) fun x_22 =>
      .bnd (idx (out11.set (Int.toNat k12) x_3) k12) fun x_23 =>
      .bnd (Tr.run (
  .br (x_3 == 20) (
   .pure (cs0, paragraph1, stack6, overIsolates7, overEmbeddings8, validIsolates9, levels10.set (Int.toNat k12) x_19.1, (out11.set (Int.toNat k12) x_3).set (Int.toNat k12) x_22.2.1, k12, x_4, true)) (
   .br (x_3 == 21) (
    .bnd (cut cs0 (IntKind.i64.wrap (k12 + 1)) (cs0.length : Int)) fun r_24 =>
    .bnd (ref10_First_F r_24 true 0) fun c_25 =>
    .pure (cs0, paragraph1, stack6, overIsolates7, overEmbeddings8, validIsolates9, levels10.set (Int.toNat k12) x_19.1, (out11.set (Int.toNat k12) x_3).set (Int.toNat k12) x_22.2.1, k12, x_4, c_25 == 1)) (
    .pure (cs0, paragraph1, stack6, overIsolates7, overEmbeddings8, validIsolates9, levels10.set (Int.toNat k12) x_19.1, (out11.set (Int.toNat k12) x_3).set (Int.toNat k12) x_22.2.1, k12, x_4, false))) : Tr (List Int × Int × (List (Int × Int × Bool)) × Int × Int × Int × List Int × List Int × Int × (Int × Int × Bool) × Bool))) fun j_26 =>
      .bnd (idx ([j_26.2.2.2.2.2.2.2.2.2.1]) 0) fun x_27 =>
      .bnd (ref10_up_F x_27.1 j_26.2.2.2.2.2.2.2.2.2.2) fun c_28 =>
      .br (decide (c_28 ≤ 125)) (
       .br (j_26.2.2.2.1 == 0) (
        .br (j_26.2.2.2.2.1 == 0) (
         .bnd (app 5864062014805 j_26.2.2.1 ([(c_28, ((-1) : Int), true)])) fun r_29 =>
         .pure (.next (j_26.1, j_26.2.1, r_29, j_26.2.2.2.1, j_26.2.2.2.2.1, IntKind.i64.wrap (j_26.2.2.2.2.2.1 + 1), j_26.2.2.2.2.2.2.1, j_26.2.2.2.2.2.2.2.1, IntKind.i64.wrap (j_26.2.2.2.2.2.2.2.2.1 + 1)))) (
         .pure (.next (j_26.1, j_26.2.1, j_26.2.2.1, IntKind.i64.wrap (j_26.2.2.2.1 + 1), j_26.2.2.2.2.1, j_26.2.2.2.2.2.1, j_26.2.2.2.2.2.2.1, j_26.2.2.2.2.2.2.2.1, IntKind.i64.wrap (j_26.2.2.2.2.2.2.2.2.1 + 1))))) (
        .pure (.next (j_26.1, j_26.2.1, j_26.2.2.1, IntKind.i64.wrap (j_26.2.2.2.1 + 1), j_26.2.2.2.2.1, j_26.2.2.2.2.2.1, j_26.2.2.2.2.2.2.1, j_26.2.2.2.2.2.2.2.1, IntKind.i64.wrap (j_26.2.2.2.2.2.2.2.2.1 + 1))))) (
       .pure (.next (j_26.1, j_26.2.1, j_26.2.2.1, IntKind.i64.wrap (j_26.2.2.2.1 + 1), j_26.2.2.2.2.1, j_26.2.2.2.2.2.1, j_26.2.2.2.2.2.2.1, j_26.2.2.2.2.2.2.2.1, IntKind.i64.wrap (j_26.2.2.2.2.2.2.2.2.1 + 1))))) (
      .bnd (Tr.run (
  .br (x_3 == 20) (
   .pure (cs0, paragraph1, stack6, overIsolates7, overEmbeddings8, validIsolates9, levels10.set (Int.toNat k12) x_19.1, out11.set (Int.toNat k12) x_3, k12, x_4, true)) (
   .br (x_3 == 21) (
    .bnd (cut cs0 (IntKind.i64.wrap (k12 + 1)) (cs0.length : Int)) fun r_30 =>
    .bnd (ref10_First_F r_30 true 0) fun c_31 =>
    .pure (cs0, paragraph1, stack6, overIsolates7, overEmbeddings8, validIsolates9, levels10.set (Int.toNat k12) x_19.1, out11.set (Int.toNat k12) x_3, k12, x_4, c_31 == 1)) (
    .pure (cs0, paragraph1, stack6, overIsolates7, overEmbeddings8, validIsolates9, levels10.set (Int.toNat k12) x_19.1, out11.set (Int.toNat k12) x_3, k12, x_4, false))) : Tr (List Int × Int × (List (Int × Int × Bool)) × Int × Int × Int × List Int × List Int × Int × (Int × Int × Bool) × Bool))) fun j_32 =>
      .bnd (idx ([j_32.2.2.2.2.2.2.2.2.2.1]) 0) fun x_33 =>
      .bnd (ref10_up_F x_33.1 j_32.2.2.2.2.2.2.2.2.2.2) fun c_34 =>
      .br (decide (c_34 ≤ 125)) (
       .br (j_32.2.2.2.1 == 0) (
        .br (j_32.2.2.2.2.1 == 0) (
         .bnd (app 5864062014805 j_32.2.2.1 ([(c_34, ((-1) : Int), true)])) fun r_35 =>
         .pure (.next (j_32.1, j_32.2.1, r_35, j_32.2.2.2.1, j_32.2.2.2.2.1, IntKind.i64.wrap (j_32.2.2.2.2.2.1 + 1), j_32.2.2.2.2.2.2.1, j_32.2.2.2.2.2.2.2.1, IntKind.i64.wrap (j_32.2.2.2.2.2.2.2.2.1 + 1)))) (
         .pure (.next (j_32.1, j_32.2.1, j_32.2.2.1, IntKind.i64.wrap (j_32.2.2.2.1 + 1), j_32.2.2.2.2.1, j_32.2.2.2.2.2.1, j_32.2.2.2.2.2.2.1, j_32.2.2.2.2.2.2.2.1, IntKind.i64.wrap (j_32.2.2.2.2.2.2.2.2.1 + 1))))) (
        .pure (.next (j_32.1, j_32.2.1, j_32.2.2.1, IntKind.i64.wrap (j_32.2.2.2.1 + 1), j_32.2.2.2.2.1, j_32.2.2.2.2.2.1, j_32.2.2.2.2.2.2.1, j_32.2.2.2.2.2.2.2.1, IntKind.i64.wrap (j_32.2.2.2.2.2.2.2.2.1 + 1))))) (
       .pure (.next (j_32.1, j_32.2.1, j_32.2.2.1, IntKind.i64.wrap (j_32.2.2.2.1 + 1), j_32.2.2.2.2.1, j_32.2.2.2.2.2.1, j_32.2.2.2.2.2.2.1, j_32.2.2.2.2.2.2.2.1, IntKind.i64.wrap (j_32.2.2.2.2.2.2.2.2.1 + 1)))))) (
     .br (x_3 == 22) (
      .br (decide (overIsolates7 > 0)) (
       .bnd (idx stack6 (IntKind.i64.wrap ((stack6.length : Int) - 1))) fun x_36 =>
       .bnd (idx ([x_36]) 0) fun x_37 =>
       .bnd (idx levels10 k12) fun x_38 =>
       .bnd (idx ([x_36]) 0) fun x_39 =>
       .br (decide (x_39.2.1 ≥ 0)) (
        .bnd (idx ([x_36]) 0) fun x_40 =>
        .bnd (idx (out11.set (Int.toNat k12) x_3) k12) fun x_41 =>
        .pure (.next (cs0, paragraph1, stack6, IntKind.i64.wrap (overIsolates7 - 1), overEmbeddings8, validIsolates9, levels10.set (Int.toNat k12) x_37.1, (out11.set (Int.toNat k12) x_3).set (Int.toNat k12) x_40.2.1, IntKind.i64.wrap (k12 + 1)))) (
        .pure (.next (cs0, paragraph1, stack6, IntKind.i64.wrap (overIsolates7 - 1), overEmbeddings8, validIsolates9, levels10.set (Int.toNat k12) x_37.1, out11.set (Int.toNat k12) x_3, IntKind.i64.wrap (k12 + 1))))) (
       .br (decide (validIsolates9 > 0)) (
        .bnd (loopW (fun s => (ref10_Resolve_L43 s.1 s.2.1 s.2.2.1 s.2.2.2.1 s.2.2.2.2.1 s.2.2.2.2.2.1 s.2.2.2.2.2.2.1 s.2.2.2.2.2.2.2.1 s.2.2.2.2.2.2.2.2.1 s.2.2.2.2.2.2.2.2.2).run) (cs0, paragraph1, stack6, overIsolates7, 0, validIsolates9, levels10, out11.set (Int.toNat k12) x_3, k12, x_4)) fun l_44 =>
        .bnd (cut l_44.2.2.1 0 (IntKind.i64.wrap ((l_44.2.2.1.length : Int) - 1))) fun r_45 =>
        .bnd (idx r_45 (IntKind.i64.wrap ((r_45.length : Int) - 1))) fun x_46 =>
        .bnd (idx ([x_46]) 0) fun x_47 =>
        .bnd (idx l_44.2.2.2.2.2.2.1 l_44.2.2.2.2.2.2.2.2.1) fun x_48 =>
        .bnd (idx ([x_46]) 0) fun x_49 =>
        .br (decide (x_49.2.1 ≥ 0)) (
         .bnd (idx ([x_46]) 0) fun x_50 =>
         .bnd (idx l_44.2.2.2.2.2.2.2.1 l_44.2.2.2.2.2.2.2.2.1) fun x_51 =>
         .pure (.next (l_44.1, l_44.2.1, r_45, l_44.2.2.2.1, l_44.2.2.2.2.1, IntKind.i64.wrap (l_44.2.2.2.2.2.1 - 1), l_44.2.2.2.2.2.2.1.set (Int.toNat l_44.2.2.2.2.2.2.2.2.1) x_47.1, l_44.2.2.2.2.2.2.2.1.set (Int.toNat l_44.2.2.2.2.2.2.2.2.1) x_50.2.1, IntKind.i64.wrap (l_44.2.2.2.2.2.2.2.2.1 + 1)))) (
         .pure (.next (l_44.1, l_44.2.1, r_45, l_44.2.2.2.1, l_44.2.2.2.2.1, IntKind.i64.wrap (l_44.2.2.2.2.2.1 - 1), l_44.2.2.2.2.2.2.1.set (Int.toNat l_44.2.2.2.2.2.2.2.2.1) x_47.1, l_44.2.2.2.2.2.2.2.1, IntKind.i64.wrap (l_44.2.2.2.2.2.2.2.2.1 + 1))))) (
        .bnd (idx stack6 (IntKind.i64.wrap ((stack6.length : Int) - 1))) fun x_52 =>
        .bnd (idx ([x_52]) 0) fun x_53 =>
        .bnd (idx levels10 k12) fun x_54 =>
        .bnd (idx ([x_52]) 0) fun x_55 =>
        .br (decide (x_55.2.1 ≥ 0)) (
         .bnd (idx ([x_52]) 0) fun x_56 =>
         .bnd (idx (out11.set (Int.toNat k12) x_3) k12) fun x_57 =>
         .pure (.next (cs0, paragraph1, stack6, overIsolates7, overEmbeddings8, validIsolates9, levels10.set (Int.toNat k12) x_53.1, (out11.set (Int.toNat k12) x_3).set (Int.toNat k12) x_56.2.1, IntKind.i64.wrap (k12 + 1)))) (
         .pure (.next (cs0, paragraph1, stack6, overIsolates7, overEmbeddings8, validIsolates9, levels10.set (Int.toNat k12) x_53.1, out11.set (Int.toNat k12) x_3, IntKind.i64.wrap (k12 + 1))))))) (
      .br (x_3 == 18) (
       .bnd (idx levels10 k12) fun x_58 =>
       .br (overIsolates7 == 0) (
        .br (decide (overEmbeddings8 > 0)) (
         .pure (.next (cs0, paragraph1, stack6, overIsolates7, IntKind.i64.wrap (overEmbeddings8 - 1), validIsolates9, levels10.set (Int.toNat k12) (-1), out11.set (Int.toNat k12) x_3, IntKind.i64.wrap (k12 + 1)))) (
         .br (overIsolates7 == 0) (
          .bnd (idx ([x_4]) 0) fun x_59 =>
          .br (!x_59.2.2) (
           .br (decide ((stack6.length : Int) ≥ 2)) (
            .bnd (cut stack6 0 (IntKind.i64.wrap ((stack6.length : Int) - 1))) fun r_60 =>
            .pure (.next (cs0, paragraph1, r_60, overIsolates7, overEmbeddings8, validIsolates9, levels10.set (Int.toNat k12) (-1), out11.set (Int.toNat k12) x_3, IntKind.i64.wrap (k12 + 1)))) (
            .pure (.next (cs0, paragraph1, stack6, overIsolates7, overEmbeddings8, validIsolates9, levels10.set (Int.toNat k12) (-1), out11.set (Int.toNat k12) x_3, IntKind.i64.wrap (k12 + 1))))) (
           .pure (.next (cs0, paragraph1, stack6, overIsolates7, overEmbeddings8, validIsolates9, levels10.set (Int.toNat k12) (-1), out11.set (Int.toNat k12) x_3, IntKind.i64.wrap (k12 + 1))))) (
          .pure (.next (cs0, paragraph1, stack6, overIsolates7, overEmbeddings8, validIsolates9, levels10.set (Int.toNat k12) (-1), out11.set (Int.toNat k12) x_3, IntKind.i64.wrap (k12 + 1)))))) (
        .br (overIsolates7 == 0) (
         .bnd (idx ([x_4]) 0) fun x_61 =>
         .br (!x_61.2.2) (
          .br (decide ((stack6.length : Int) ≥ 2)) (
           .bnd (cut stack6 0 (IntKind.i64.wrap ((stack6.length : Int) - 1))) fun r_62 =>
           .pure (.next (cs0, paragraph1, r_62, overIsolates7, overEmbeddings8, validIsolates9, levels10.set (Int.toNat k12) (-1), out11.set (Int.toNat k12) x_3, IntKind.i64.wrap (k12 + 1)))) (
           .pure (.next (cs0, paragraph1, stack6, overIsolates7, overEmbeddings8, validIsolates9, levels10.set (Int.toNat k12) (-1), out11.set (Int.toNat k12) x_3, IntKind.i64.wrap (k12 + 1))))) (
          .pure (.next (cs0, paragraph1, stack6, overIsolates7, overEmbeddings8, validIsolates9, levels10.set (Int.toNat k12) (-1), out11.set (Int.toNat k12) x_3, IntKind.i64.wrap (k12 + 1))))) (
         .pure (.next (cs0, paragraph1, stack6, overIsolates7, overEmbeddings8, validIsolates9, levels10.set (Int.toNat k12) (-1), out11.set (Int.toNat k12) x_3, IntKind.i64.wrap (k12 + 1)))))) (
       .br (x_3 == 10) (
        .bnd (idx levels10 k12) fun x_63 =>
        .pure (.next (cs0, paragraph1, stack6, overIsolates7, overEmbeddings8, validIsolates9, levels10.set (Int.toNat k12) paragraph1, out11.set (Int.toNat k12) x_3, IntKind.i64.wrap (k12 + 1)))) (
        .br (x_3 == 9) (
         .bnd (idx levels10 k12) fun x_64 =>
         .pure (.next (cs0, paragraph1, stack6, overIsolates7, overEmbeddings8, validIsolates9, levels10.set (Int.toNat k12) (-1), out11.set (Int.toNat k12) x_3, IntKind.i64.wrap (k12 + 1)))) (
         .bnd (idx ([x_4]) 0) fun x_65 =>
         .bnd (idx levels10 k12) fun x_66 =>
         .bnd (idx ([x_4]) 0) fun x_67 =>
         .br (decide (x_67.2.1 ≥ 0)) (
          .bnd (idx ([x_4]) 0) fun x_68 =>
          .bnd (idx (out11.set (Int.toNat k12) x_3) k12) fun x_69 =>
          .pure (.next (cs0, paragraph1, stack6, overIsolates7, overEmbeddings8, validIsolates9, levels10.set (Int.toNat k12) x_65.1, (out11.set (Int.toNat k12) x_3).set (Int.toNat k12) x_68.2.1, IntKind.i64.wrap (k12 + 1)))) (
          .pure (.next (cs0, paragraph1, stack6, overIsolates7, overEmbeddings8, validIsolates9, levels10.set (Int.toNat k12) x_65.1, out11.set (Int.toNat k12) x_3, IntKind.i64.wrap (k12 + 1))))))))))) (
   .bnd (ref10_beginning_F x_3) fun c_70 =>
   .br c_70 (
    .bnd (idx ([x_4]) 0) fun x_71 =>
    .bnd (idx levels10 k12) fun x_72 =>
    .bnd (idx ([x_4]) 0) fun x_73 =>
    .br (decide (x_73.2.1 ≥ 0)) (
     .bnd (idx ([x_4]) 0) fun x_74 =>
     .bnd (idx (out11.set (Int.toNat k12) x_3) k12) fun x_75 =>
     .bnd (Tr.run (
  .br (x_3 == 20) (
   .pure (cs0, paragraph1, stack6, overIsolates7, overEmbeddings8, validIsolates9, levels10.set (Int.toNat k12) x_71.1, (out11.set (Int.toNat k12) x_3).set (Int.toNat k12) x_74.2.1, k12, x_4, true)) (
   .br (x_3 == 21) (
    .bnd (cut cs0 (IntKind.i64.wrap (k12 + 1)) (cs0.length : Int)) fun r_76 =>
    .bnd (ref10_First_F r_76 true 0) fun c_77 =>
    .pure (cs0, paragraph1, stack6, overIsolates7, overEmbeddings8, validIsolates9, levels10.set (Int.toNat k12) x_71.1, (out11.set (Int.toNat k12) x_3).set (Int.toNat k12) x_74.2.1, k12, x_4, c_77 == 1)) (
    .pure (cs0, paragraph1, stack6, overIsolates7, overEmbeddings8, validIsolates9, levels10.set (Int.toNat k12) x_71.1, (out11.set (Int.toNat k12) x_3).set (Int.toNat k12) x_74.2.1, k12, x_4, false))) : Tr (List Int × Int × (List (Int × Int × Bool)) × Int × Int × Int × List Int × List Int × Int × (Int × Int × Bool) × Bool))) fun j_78 =>
     .bnd (idx ([j_78.2.2.2.2.2.2.2.2.2.1]) 0) fun x_79 =>
     .bnd (ref10_up_F x_79.1 j_78.2.2.2.2.2.2.2.2.2.2) fun c_80 =>
     .br (decide (c_80 ≤ 125)) (
      .br (j_78.2.2.2.1 == 0) (
       .br (j_78.2.2.2.2.1 == 0) (
        .bnd (app 5864062014805 j_78.2.2.1 ([(c_80, ((-1) : Int), true)])) fun r_81 =>
        .pure (.next (j_78.1, j_78.2.1, r_81, j_78.2.2.2.1, j_78.2.2.2.2.1, IntKind.i64.wrap (j_78.2.2.2.2.2.1 + 1), j_78.2.2.2.2.2.2.1, j_78.2.2.2.2.2.2.2.1, IntKind.i64.wrap (j_78.2.2.2.2.2.2.2.2.1 + 1)))) (
        .pure (.next (j_78.1, j_78.2.1, j_78.2.2.1, IntKind.i64.wrap (j_78.2.2.2.1 + 1), j_78.2.2.2.2.1, j_78.2.2.2.2.2.1, j_78.2.2.2.2.2.2.1, j_78.2.2.2.2.2.2.2.1, IntKind.i64.wrap (j_78.2.2.2.2.2.2.2.2.1 + 1))))) (
       .pure (.next (j_78.1, j_78.2.1, j_78.2.2.1, IntKind.i64.wrap (j_78.2.2.2.1 + 1), j_78.2.2.2.2.1, j_78.2.2.2.2.2.1, j_78.2.2.2.2.2.2.1, j_78.2.2.2.2.2.2.2.1, IntKind.i64.wrap (j_78.2.2.2.2.2.2.2.2.1 + 1))))) (
      .pure (.next (j_78.1, j_78.2.1, j_78.2.2.1, IntKind.i64.wrap (j_78.2.2.2.1 + 1), j_78.2.2.2.2.1, j_78.2.2.2.2.2.1, j_78.2.2.2.2.2.2.1, j_78.2.2.2.2.2.2.2.1, IntKind.i64.wrap (j_78.2.2.2.2.2.2.2.2.1 + 1))))) (
     .bnd (Tr.run (
  .br (x_3 == 20) (
   .pure (cs0, paragraph1, stack6, overIsolates7, overEmbeddings8, validIsolates9, levels10.set (Int.toNat k12) x_71.1, out11.set (Int.toNat k12) x_3, k12, x_4, true)) (
   .br (x_3 == 21) (
    .bnd (cut cs0 (IntKind.i64.wrap (k12 + 1)) (cs0.length : Int)) fun r_82 =>
    .bnd (ref10_First_F r_82 true 0) fun c_83 =>
    .pure (cs0, paragraph1, stack6, overIsolates7, overEmbeddings8, validIsolates9, levels10.set (Int.toNat k12) x_71.1, out11.set (Int.toNat k12) x_3, k12, x_4, c_83 == 1)) (
    .pure (cs0, paragraph1, stack6, overIsolates7, overEmbeddings8, validIsolates9, levels10.set (Int.toNat k12) x_71.1, out11.set (Int.toNat k12) x_3, k12, x_4, false))) : Tr (List Int × Int × (List (Int × Int × Bool)) × Int × Int × Int × List Int × List Int × Int × (Int × Int × Bool) × Bool))) fun j_84 =>
     .bnd (idx ([j_84.2.2.2.2.2.2.2.2.2.1]) 0) fun x_85 =>
     .bnd (ref10_up_F x_85.1 j_84.2.2.2.2.2.2.2.2.2.2) fun c_86 =>
     .br (decide (c_86 ≤ 125)) (
      .br (j_84.2.2.2.1 == 0) (
       .br (j_84.2.2.2.2.1 == 0) (
        .bnd (app 5864062014805 j_84.2.2.1 ([(c_86, ((-1) : Int), true)])) fun r_87 =>
        .pure (.next (j_84.1, j_84.2.1, r_87, j_84.2.2.2.1, j_84.2.2.2.2.1, IntKind.i64.wrap (j_84.2.2.2.2.2.1 + 1), j_84.2.2.2.2.2.2.1, j_84.2.2.2.2.2.2.2.1, IntKind.i64.wrap (j_84.2.2.2.2.2.2.2.2.1 + 1)))) (
        .pure (.next (j_84.1, j_84.2.1, j_84.2.2.1, IntKind.i64.wrap (j_84.2.2.2.1 + 1), j_84.2.2.2.2.1, j_84.2.2.2.2.2.1, j_84.2.2.2.2.2.2.1, j_84.2.2.2.2.2.2.2.1, IntKind.i64.wrap (j_84.2.2.2.2.2.2.2.2.1 + 1))))) (
       .pure (.next (j_84.1, j_84.2.1, j_84.2.2.1, IntKind.i64.wrap (j_84.2.2.2.1 + 1), j_84.2.2.2.2.1, j_84.2.2.2.2.2.1, j_84.2.2.2.2.2.2.1, j_84.2.2.2.2.2.2.2.1, IntKind.i64.wrap (j_84.2.2.2.2.2.2.2.2.1 + 1))))) (
      .pure (.next (j_84.1, j_84.2.1, j_84.2.2.1, IntKind.i64.wrap (j_84.2.2.2.1 + 1), j_84.2.2.2.2.1, j_84.2.2.2.2.2.1, j_84.2.2.2.2.2.2.1, j_84.2.2.2.2.2.2.2.1, IntKind.i64.wrap (j_84.2.2.2.2.2.2.2.2.1 + 1)))))) (
    .br (x_3 == 22) (
     .br (decide (overIsolates7 > 0)) (
      .bnd (idx stack6 (IntKind.i64.wrap ((stack6.length : Int) - 1))) fun x_88 =>
      .bnd (idx ([x_88]) 0) fun x_89 =>
      .bnd (idx levels10 k12) fun x_90 =>
      .bnd (idx ([x_88]) 0) fun x_91 =>
      .br (decide (x_91.2.1 ≥ 0)) (
       .bnd (idx ([x_88]) 0) fun x_92 =>
       .bnd (idx (out11.set (Int.toNat k12) x_3) k12) fun x_93 =>
       .pure (.next (cs0, paragraph1, stack6, IntKind.i64.wrap (overIsolates7 - 1), overEmbeddings8, validIsolates9, levels10.set (Int.toNat k12) x_89.1, (out11.set (Int.toNat k12) x_3).set (Int.toNat k12) x_92.2.1, IntKind.i64.wrap (k12 + 1)))) (
       .pure (.next (cs0, paragraph1, stack6, IntKind.i64.wrap (overIsolates7 - 1), overEmbeddings8, validIsolates9, levels10.set (Int.toNat k12) x_89.1, out11.set (Int.toNat k12) x_3, IntKind.i64.wrap (k12 + 1))))) (
      .br (decide (validIsolates9 > 0)) (
       .bnd (loopW (fun s => (ref10_Resolve_L43 s.1 s.2.1 s.2.2.1 s.2.2.2.1 s.2.2.2.2.1 s.2.2.2.2.2.1 s.2.2.2.2.2.2.1 s.2.2.2.2.2.2.2.1 s.2.2.2.2.2.2.2.2.1 s.2.2.2.2.2.2.2.2.2).run) (cs0, paragraph1, stack6, overIsolates7, 0, validIsolates9, levels10, out11.set (Int.toNat k12) x_3, k12, x_4)) fun l_94 =>
       .bnd (cut l_94.2.2.1 0 (IntKind.i64.wrap ((l_94.2.2.1.length : Int) - 1))) fun r_95 =>
       .bnd (idx r_95 (IntKind.i64.wrap ((r_95.length : Int) - 1))) fun x_96 =>
       .bnd (idx ([x_96]) 0) fun x_97 =>
       .bnd (idx l_94.2.2.2.2.2.2.1 l_94.2.2.2.2.2.2.2.2.1) fun x_98 =>
       .bnd (idx ([x_96]) 0) fun x_99 =>
       .br (decide (x_99.2.1 ≥ 0)) (
        .bnd (idx ([x_96]) 0) fun x_100 =>
        .bnd (idx l_94.2.2.2.2.2.2.2.1 l_94.2.2.2.2.2.2.2.2.1) fun x_101 =>
        .pure (.next (l_94.1, l_94.2.1, r_95, l_94.2.2.2.1, l_94.2.2.2.2.1, IntKind.i64.wrap (l_94.2.2.2.2.2.1 - 1), l_94.2.2.2.2.2.2.1.set (Int.toNat l_94.2.2.2.2.2.2.2.2.1) x_97.1, l_94.2.2.2.2.2.2.2.1.set (Int.toNat l_94.2.2.2.2.2.2.2.2.1) x_100.2.1, IntKind.i64.wrap (l_94.2.2.2.2.2.2.2.2.1 + 1)))) (
        .pure (.next (l_94.1, l_94.2.1, r_95, l_94.2.2.2.1, l_94.2.2.2.2.1, IntKind.i64.wrap (l_94.2.2.2.2.2.1 - 1), l_94.2.2.2.2.2.2.1.set (Int.toNat l_94.2.2.2.2.2.2.2.2.1) x_97.1, l_94.2.2.2.2.2.2.2.1, IntKind.i64.wrap (l_94.2.2.2.2.2.2.2.2.1 + 1))))) (
       .bnd (idx stack6 (IntKind.i64.wrap ((stack6.length : Int) - 1))) fun x_102 =>
       .bnd (idx ([x_102]) 0) fun x_103 =>
       .bnd (idx levels10 k12) fun x_104 =>
       .bnd (idx ([x_102]) 0) fun x_105 =>
       .br (decide (x_105.2.1 ≥ 0)) (
        .bnd (idx ([x_102]) 0) fun x_106 =>
        .bnd (idx (out11.set (Int.toNat k12) x_3) k12) fun x_107 =>
        .pure (.next (cs0, paragraph1, stack6, overIsolates7, overEmbeddings8, validIsolates9, levels10.set (Int.toNat k12) x_103.1, (out11.set (Int.toNat k12) x_3).set (Int.toNat k12) x_106.2.1, IntKind.i64.wrap (k12 + 1)))) (
        .pure (.next (cs0, paragraph1, stack6, overIsolates7, overEmbeddings8, validIsolates9, levels10.set (Int.toNat k12) x_103.1, out11.set (Int.toNat k12) x_3, IntKind.i64.wrap (k12 + 1))))))) (
     .br (x_3 == 18) (
      .bnd (idx levels10 k12) fun x_108 =>
      .br (overIsolates7 == 0) (
       .br (decide (overEmbeddings8 > 0)) (
        .pure (.next (cs0, paragraph1, stack6, overIsolates7, IntKind.i64.wrap (overEmbeddings8 - 1), validIsolates9, levels10.set (Int.toNat k12) (-1), out11.set (Int.toNat k12) x_3, IntKind.i64.wrap (k12 + 1)))) (
        .br (overIsolates7 == 0) (
         .bnd (idx ([x_4]) 0) fun x_109 =>
         .br (!x_109.2.2) (
          .br (decide ((stack6.length : Int) ≥ 2)) (
           .bnd (cut stack6 0 (IntKind.i64.wrap ((stack6.length : Int) - 1))) fun r_110 =>
           .pure (.next (cs0, paragraph1, r_110, overIsolates7, overEmbeddings8, validIsolates9, levels10.set (Int.toNat k12) (-1), out11.set (Int.toNat k12) x_3, IntKind.i64.wrap (k12 + 1)))) (
           .pure (.next (cs0, paragraph1, stack6, overIsolates7, overEmbeddings8, validIsolates9, levels10.set (Int.toNat k12) (-1), out11.set (Int.toNat k12) x_3, IntKind.i64.wrap (k12 + 1))))) (
          .pure (.next (cs0, paragraph1, stack6, overIsolates7, overEmbeddings8, validIsolates9, levels10.set (Int.toNat k12) (-1), out11.set (Int.toNat k12) x_3, IntKind.i64.wrap (k12 + 1))))) (
         .pure (.next (cs0, paragraph1, stack6, overIsolates7, overEmbeddings8, validIsolates9, levels10.set (Int.toNat k12) (-1), out11.set (Int.toNat k12) x_3, IntKind.i64.wrap (k12 + 1)))))) (
       .br (overIsolates7 == 0) (
        .bnd (idx ([x_4]) 0) fun x_111 =>
        .br (!x_111.2.2) (
         .br (decide ((stack6.length : Int) ≥ 2)) (
          .bnd (cut stack6 0 (IntKind.i64.wrap ((stack6.length : Int) - 1))) fun r_112 =>
          .pure (.next (cs0, paragraph1, r_112, overIsolates7, overEmbeddings8, validIsolates9, levels10.set (Int.toNat k12) (-1), out11.set (Int.toNat k12) x_3, IntKind.i64.wrap (k12 + 1)))) (
          .pure (.next (cs0, paragraph1, stack6, overIsolates7, overEmbeddings8, validIsolates9, levels10.set (Int.toNat k12) (-1), out11.set (Int.toNat k12) x_3, IntKind.i64.wrap (k12 + 1))))) (
         .pure (.next (cs0, paragraph1, stack6, overIsolates7, overEmbeddings8, validIsolates9, levels10.set (Int.toNat k12) (-1), out11.set (Int.toNat k12) x_3, IntKind.i64.wrap (k12 + 1))))) (
        .pure (.next (cs0, paragraph1, stack6, overIsolates7, overEmbeddings8, validIsolates9, levels10.set (Int.toNat k12) (-1), out11.set (Int.toNat k12) x_3, IntKind.i64.wrap (k12 + 1)))))) (
      .br (x_3 == 10) (
       .bnd (idx levels10 k12) fun x_113 =>
       .pure (.next (cs0, paragraph1, stack6, overIsolates7, overEmbeddings8, validIsolates9, levels10.set (Int.toNat k12) paragraph1, out11.set (Int.toNat k12) x_3, IntKind.i64.wrap (k12 + 1)))) (
       .br (x_3 == 9) (
        .bnd (idx levels10 k12) fun x_114 =>
        .pure (.next (cs0, paragraph1, stack6, overIsolates7, overEmbeddings8, validIsolates9, levels10.set (Int.toNat k12) (-1), out11.set (Int.toNat k12) x_3, IntKind.i64.wrap (k12 + 1)))) (
        .bnd (idx ([x_4]) 0) fun x_115 =>
        .bnd (idx levels10 k12) fun x_116 =>
        .bnd (idx ([x_4]) 0) fun x_117 =>
        .br (decide (x_117.2.1 ≥ 0)) (
         .bnd (idx ([x_4]) 0) fun x_118 =>
         .bnd (idx (out11.set (Int.toNat k12) x_3) k12) fun x_119 =>
         .pure (.next (cs0, paragraph1, stack6, overIsolates7, overEmbeddings8, validIsolates9, levels10.set (Int.toNat k12) x_115.1, (out11.set (Int.toNat k12) x_3).set (Int.toNat k12) x_118.2.1, IntKind.i64.wrap (k12 + 1)))) (
         .pure (.next (cs0, paragraph1, stack6, overIsolates7, overEmbeddings8, validIsolates9, levels10.set (Int.toNat k12) x_115.1, out11.set (Int.toNat k12) x_3, IntKind.i64.wrap (k12 + 1))))))))))) (
  .pure (.done (levels10, out11)))
noncomputable def ref10_Resolve_T (cs0 : List Int) (paragraph1 : Int) : Tr (List Int × List Int) :=
 .bnd (mk 17592186044416 0 (cs0.length : Int)) fun r_1 =>
 .bnd (mk 17592186044416 0 (cs0.length : Int)) fun r_2 =>
 .bnd (loopW (fun s => (ref10_Resolve_L8 s.1 s.2.1 s.2.2.1 s.2.2.2.1 s.2.2.2.2.1 s.2.2.2.2.2.1 s.2.2.2.2.2.2.1 s.2.2.2.2.2.2.2.1 s.2.2.2.2.2.2.2.2).run) (cs0, paragraph1, [(paragraph1, ((-1) : Int), false)], 0, 0, 0, r_1, r_2, 0)) fun l_120 =>
 .pure (l_120.1, l_120.2)
noncomputable def ref10_Resolve_F (cs0 : List Int) (paragraph1 : Int) : Option (List Int × List Int) := (ref10_Resolve_T cs0 paragraph1).run
def ref10_Resolve_L : List (Nat × LoopAnn) := [(43, { head := [.sv 0 false Te, .sv 1 false Th, .srow 6 1000006 102 true (.st (.pair Th (.pair Th .bool))), .sv 7 true Th, .sv 8 true Th, .sv 9 true Th, .srow 10 1000010 3 true Th, .srow 11 1000011 3 true Th, .sv 12 true Th, .sbox 14 1000014 102 true (.st (.pair Th (.pair Th .bool)))], xid := 3, out := [.sv 0 false Te, .sv 1 false Th, .srow 6 1000006 102 true (.st (.pair Th (.pair Th .bool))), .sv 7 true Th, .sv 8 true Th, .sv 9 true Th, .srow 10 1000010 3 true Th, .srow 11 1000011 3 true Th, .sv 12 true Th, .sbox 14 1000014 102 true (.st (.pair Th (.pair Th .bool)))], hasRet := false, res := [] }), (8, { head := [.sv 0 false Te, .sv 1 false Th, .srow 6 1000006 102 true (.st (.pair Th (.pair Th .bool))), .sv 7 true Th, .sv 8 true Th, .sv 9 true Th, .srow 10 1000010 3 true Th, .srow 11 1000011 3 true Th, .sv 12 true Th], xid := 0, out := [.srow 10 1000010 3 true Th, .srow 11 1000011 3 true Th], hasRet := false, res := [] })]
noncomputable def ref10_Resolve_C : List (Nat × Callee) := [(54, .plain ref10_up_fun), (32, .plain ref10_beginning_fun), (15, .plain ref10_First_fun)]
noncomputable def ref10_Resolve_fun : Fun := ⟨[.sl Th, Th], [.row 3 Th, .row 3 Th], fun x => ref10_Resolve_F x.1 x.2.1⟩
theorem ref10_Resolve_ev (x : Tys.I [.sl Th, Th]) : evFun G0 (of_ ref10_Resolve_C) ⟨[178, 183, 235], [], [], [], [(32, [(14, [.sv 0 false Te, .sv 1 false Th, .srow 6 1000006 102 true (.st (.pair Th (.pair Th .bool))), .sv 7 true Th, .sv 8 true Th, .sv 9 true Th, .srow 10 1000010 3 true Th, .srow 11 1000011 3 true Th, .sv 12 true Th, .sbox 14 1000014 102 true (.st (.pair Th (.pair Th .bool))), .sv 133 true .bool])])], []⟩ (ol_ ref10_Resolve_L) Tryz.f21 [.sl Th, Th] [.row 3 Th, .row 3 Th] x = ref10_Resolve_T x.1 x.2.1 := by kernel_rfl
theorem ref10_Resolve_ok : FunOk Tryz.prog 21 ref10_Resolve_fun := evFun_ok mixed ctx0 (pc ref10_up_ok (pc ref10_beginning_ok (pc ref10_First_ok (no_calls)))) Tryz.func21 (by kernel_rfl) _ (fun x => congrArg Tr.run (ref10_Resolve_ev x)) (by kernel_rfl) (by kernel_rfl)
noncomputable def ref14_copied_T (cs0 : List Int) : Tr (List Int) :=
 .bnd (app 17592186044416 [] cs0) fun r_1 =>
 .pure r_1
noncomputable def ref14_copied_F (cs0 : List Int) : Option (List Int) := (ref14_copied_T cs0).run
def ref14_copied_L : List (Nat × LoopAnn) := []
noncomputable def ref14_copied_C : List (Nat × Callee) := []
noncomputable def ref14_copied_fun : Fun := ⟨[.sl Th], [.row 3 Th], fun x => ref14_copied_F x.1⟩
theorem ref14_copied_ev (x : Tys.I [.sl Th]) : evFun G0 (of_ ref14_copied_C) A0 (ol_ ref14_copied_L) Tryz.f62 [.sl Th] [.row 3 Th] x = ref14_copied_T x.1 := by kernel_rfl
theorem ref14_copied_ok : FunOk Tryz.prog 62 ref14_copied_fun := evFun_ok mixed ctx0 (no_calls) Tryz.func62 (by kernel_rfl) _ (fun x => congrArg Tr.run (ref14_copied_ev x)) (by kernel_rfl) (by kernel_rfl)
noncomputable def ref14_strong_L2 (cs0 : List Int) (sos2 : Int) (i7 : Int) : Tr (Lap (List Int × Int × Int) (Sum Int Int)) :=
 .br (decide (i7 ≥ 0)) (
  .bnd (idx cs0 i7) fun x_1 =>
  .br (x_1 == 0) (
   .bnd (idx cs0 i7) fun x_2 =>
   .pure (.done (.inr x_2))) (
   .bnd (idx cs0 i7) fun x_3 =>
   .br (x_3 == 1) (
    .bnd (idx cs0 i7) fun x_4 =>
    .pure (.done (.inr x_4))) (
    .bnd (idx cs0 i7) fun x_5 =>
    .br (x_5 == 2) (
     .bnd (idx cs0 i7) fun x_6 =>
     .pure (.done (.inr x_6))) (
     .pure (.next (cs0, sos2, IntKind.i64.wrap (i7 - 1))))))) (
  .pure (.done (.inl sos2)))
noncomputable def ref14_strong_T (cs0 : List Int) (k1 : Int) (sos2 : Int) : Tr Int :=
 .alt (loopW (fun s => (ref14_strong_L2 s.1 s.2.1 s.2.2).run) (cs0, sos2, IntKind.i64.wrap (k1 - 1))) (fun l_7 =>
  .pure l_7) (fun l_8 =>
  .pure l_8)
noncomputable def ref14_strong_F (cs0 : List Int) (k1 : Int) (sos2 : Int) : Option Int := (ref14_strong_T cs0 k1 sos2).run
def ref14_strong_L : List (Nat × LoopAnn) := [(2, { head := [.sv 0 false Te, .sv 2 false Th, .sv 7 true Th], xid := 0, out := [.sv 2 false Th], hasRet := true, res := [.sv 6 false Th] })]
noncomputable def ref14_strong_C : List (Nat × Callee) := []
noncomputable def ref14_strong_fun : Fun := ⟨[.sl Th, Th, Th], [.v Th], fun x => ref14_strong_F x.1 x.2.1 x.2.2.1⟩
theorem ref14_strong_ev (x : Tys.I [.sl Th, Th, Th]) : evFun G0 (of_ ref14_strong_C) A0 (ol_ ref14_strong_L) Tryz.f95 [.sl Th, Th, Th] [.v Th] x = ref14_strong_T x.1 x.2.1 x.2.2.1 := by kernel_rfl
theorem ref14_strong_ok : FunOk Tryz.prog 95 ref14_strong_fun := evFun_ok mixed ctx0 (no_calls) Tryz.func95 (by kernel_rfl) _ (fun x => congrArg Tr.run (ref14_strong_ev x)) (by kernel_rfl) (by kernel_rfl)
noncomputable def ref14_rule7_L3 (cs0 : List Int) (sos1 : Int) (out5 : List Int) (k6 : Int) : Tr (Lap (List Int × Int × List Int × Int) (List Int)) :=
 .br (decide (k6 < (cs0.length : Int))) (
  .bnd (idx cs0 k6) fun x_2 =>
  .br (x_2 == 3) (
   .bnd (ref14_strong_F cs0 k6 sos1) fun c_3 =>
   .br (c_3 == 0) (
    .bnd (idx out5 k6) fun x_4 =>
    .pure (.next (cs0, sos1, out5.set (Int.toNat k6) 0, IntKind.i64.wrap (k6 + 1)))) (
    .pure (.next (cs0, sos1, out5, IntKind.i64.wrap (k6 + 1))))) (
   .pure (.next (cs0, sos1, out5, IntKind.i64.wrap (k6 + 1))))) (
  .pure (.done out5))
noncomputable def ref14_rule7_T (cs0 : List Int) (sos1 : Int) : Tr (List Int) :=
 .bnd (ref14_copied_F cs0) fun c_1 =>
 .bnd (loopW (fun s => (ref14_rule7_L3 s.1 s.2.1 s.2.2.1 s.2.2.2).run) (cs0, sos1, c_1, 0)) fun l_5 =>
 .pure l_5
noncomputable def ref14_rule7_F (cs0 : List Int) (sos1 : Int) : Option (List Int) := (ref14_rule7_T cs0 sos1).run
def ref14_rule7_L : List (Nat × LoopAnn) := [(3, { head := [.sv 0 false Te, .sv 1 false Th, .srow 5 1000005 3 true Th, .sv 6 true Th], xid := 0, out := [.srow 5 1000005 3 true Th], hasRet := false, res := [] })]
noncomputable def ref14_rule7_C : List (Nat × Callee) := [(62, .plain ref14_copied_fun), (95, .plain ref14_strong_fun)]
noncomputable def ref14_rule7_fun : Fun := ⟨[.sl Th, Th], [.row 3 Th], fun x => ref14_rule7_F x.1 x.2.1⟩
theorem ref14_rule7_ev (x : Tys.I [.sl Th, Th]) : evFun G0 (of_ ref14_rule7_C) A0 (ol_ ref14_rule7_L) Tryz.f55 [.sl Th, Th] [.row 3 Th] x = ref14_rule7_T x.1 x.2.1 := by kernel_rfl
theorem ref14_rule7_ok : FunOk Tryz.prog 55 ref14_rule7_fun := evFun_ok mixed ctx0 (pc ref14_copied_ok (pc ref14_strong_ok (no_calls))) Tryz.func55 (by kernel_rfl) _ (fun x => congrArg Tr.run (ref14_rule7_ev x)) (by kernel_rfl) (by kernel_rfl)
noncomputable def ref14_rule6_L3 (out3 : List Int) (k4 : Int) : Tr (Lap (List Int × Int) (List Int)) :=
 .br (decide (k4 < (out3.length : Int))) (
  .bnd (idx out3 k4) fun x_2 =>
  .br (x_2 == 4) (
   .bnd (idx out3 k4) fun x_3 =>
   .pure (.next (out3.set (Int.toNat k4) 13, IntKind.i64.wrap (k4 + 1)))) (
   .bnd (idx out3 k4) fun x_4 =>
   .br (x_4 == 5) (
    .bnd (idx out3 k4) fun x_5 =>
    .pure (.next (out3.set (Int.toNat k4) 13, IntKind.i64.wrap (k4 + 1)))) (
    .bnd (idx out3 k4) fun x_6 =>
    .br (x_6 == 7) (
     .bnd (idx out3 k4) fun x_7 =>
     .pure (.next (out3.set (Int.toNat k4) 13, IntKind.i64.wrap (k4 + 1)))) (
     .pure (.next (out3, IntKind.i64.wrap (k4 + 1))))))) (
  .pure (.done out3))
noncomputable def ref14_rule6_T (cs0 : List Int) : Tr (List Int) :=
 .bnd (ref14_copied_F cs0) fun c_1 =>
 .bnd (loopW (fun s => (ref14_rule6_L3 s.1 s.2).run) (c_1, 0)) fun l_8 =>
 .pure l_8
noncomputable def ref14_rule6_F (cs0 : List Int) : Option (List Int) := (ref14_rule6_T cs0).run
def ref14_rule6_L : List (Nat × LoopAnn) := [(3, { head := [.srow 3 1000003 3 true Th, .sv 4 true Th], xid := 0, out := [.srow 3 1000003 3 true Th], hasRet := false, res := [] })]
noncomputable def ref14_rule6_C : List (Nat × Callee) := [(62, .plain ref14_copied_fun)]
noncomputable def ref14_rule6_fun : Fun := ⟨[.sl Th], [.row 3 Th], fun x => ref14_rule6_F x.1⟩
theorem ref14_rule6_ev (x : Tys.I [.sl Th]) : evFun G0 (of_ ref14_rule6_C) A0 (ol_ ref14_rule6_L) Tryz.f56 [.sl Th] [.row 3 Th] x = ref14_rule6_T x.1 := by kernel_rfl
theorem ref14_rule6_ok : FunOk Tryz.prog 56 ref14_rule6_fun := evFun_ok mixed ctx0 (pc ref14_copied_ok (no_calls)) Tryz.func56 (by kernel_rfl) _ (fun x => congrArg Tr.run (ref14_rule6_ev x)) (by kernel_rfl) (by kernel_rfl)
noncomputable def ref14_rule5_L7 (cs0 : List Int) (out3 : List Int) (k4 : Int) (i5 : Int) : Tr (Lap (List Int × List Int × Int × Int) (List Int × List Int × Int × Int)) :=
 .br (decide (i5 ≥ 0)) (
  .bnd (idx cs0 i5) fun x_3 =>
  .br (x_3 == 5) (
   .pure (.next (cs0, out3, k4, IntKind.i64.wrap (i5 - 1)))) (
   .pure (.done (cs0, out3, k4, i5)))) (
  .pure (.done (cs0, out3, k4, i5)))
noncomputable def ref14_rule5_L10 (cs0 : List Int) (out3 : List Int) (k4 : Int) (i5 : Int) (j6 : Int) : Tr (Lap (List Int × List Int × Int × Int × Int) (List Int × List Int × Int × Int × Int)) :=
 .br (decide (j6 < (cs0.length : Int))) (
  .bnd (idx cs0 j6) fun x_5 =>
  .br (x_5 == 5) (
   .pure (.next (cs0, out3, k4, i5, IntKind.i64.wrap (j6 + 1)))) (
   .pure (.done (cs0, out3, k4, i5, j6)))) (
  .pure (.done (cs0, out3, k4, i5, j6)))
noncomputable def ref14_rule5_L3 (cs0 : List Int) (out3 : List Int) (k4 : Int) : Tr (Lap (List Int × List Int × Int) (List Int)) :=
 .br (decide (k4 < (cs0.length : Int))) (
  .bnd (idx cs0 k4) fun x_2 =>
  .br (x_2 != 5) (
   .pure (.next (cs0, out3, IntKind.i64.wrap (k4 + 1)))) (
   .bnd (loopW (fun s => (ref14_rule5_L7 s.1 s.2.1 s.2.2.1 s.2.2.2).run) (cs0, out3, k4, k4)) fun l_4 =>
   .bnd (loopW (fun s => (ref14_rule5_L10 s.1 s.2.1 s.2.2.1 s.2.2.2.1 s.2.2.2.2).run) (l_4.1, l_4.2.1, l_4.2.2.1, l_4.2.2.2, l_4.2.2.1)) fun l_6 =>
   .br (decide (l_6.2.2.2.1 ≥ 0)) (
    .bnd (idx l_6.1 l_6.2.2.2.1) fun x_7 =>
    .br (x_7 == 3) (
     .bnd (idx l_6.2.1 l_6.2.2.1) fun x_8 =>
     .pure (.next (l_6.1, l_6.2.1.set (Int.toNat l_6.2.2.1) 3, IntKind.i64.wrap (l_6.2.2.1 + 1)))) (
     .br (decide (l_6.2.2.2.2 < (l_6.1.length : Int))) (
      .bnd (idx l_6.1 l_6.2.2.2.2) fun x_9 =>
      .br (x_9 == 3) (
       .bnd (idx l_6.2.1 l_6.2.2.1) fun x_10 =>
       .pure (.next (l_6.1, l_6.2.1.set (Int.toNat l_6.2.2.1) 3, IntKind.i64.wrap (l_6.2.2.1 + 1)))) (
       .pure (.next (l_6.1, l_6.2.1, IntKind.i64.wrap (l_6.2.2.1 + 1))))) (
      .pure (.next (l_6.1, l_6.2.1, IntKind.i64.wrap (l_6.2.2.1 + 1)))))) (
    .br (decide (l_6.2.2.2.2 < (l_6.1.length : Int))) (
     .bnd (idx l_6.1 l_6.2.2.2.2) fun x_11 =>
     .br (x_11 == 3) (
      .bnd (idx l_6.2.1 l_6.2.2.1) fun x_12 =>
      .pure (.next (l_6.1, l_6.2.1.set (Int.toNat l_6.2.2.1) 3, IntKind.i64.wrap (l_6.2.2.1 + 1)))) (
      .pure (.next (l_6.1, l_6.2.1, IntKind.i64.wrap (l_6.2.2.1 + 1))))) (
     .pure (.next (l_6.1, l_6.2.1, IntKind.i64.wrap (l_6.2.2.1 + 1))))))) (
  .pure (.done out3))
noncomputable def ref14_rule5_T (cs0 : List Int) : Tr (List Int) :=
 .bnd (ref14_copied_F cs0) fun c_1 =>
 .bnd (loopW (fun s => (ref14_rule5_L3 s.1 s.2.1 s.2.2).run) (cs0, c_1, 0)) fun l_13 =>
 .pure l_13
noncomputable def ref14_rule5_F (cs0 : List Int) : Option (List Int) := (ref14_rule5_T cs0).run
def ref14_rule5_L : List (Nat × LoopAnn) := [(7, { head := [.sv 0 false Te, .srow 3 1000003 3 true Th, .sv 4 true Th, .sv 5 true Th], xid := 2, out := [.sv 0 false Te, .srow 3 1000003 3 true Th, .sv 4 true Th, .sv 5 true Th], hasRet := false, res := [] }), (10, { head := [.sv 0 false Te, .srow 3 1000003 3 true Th, .sv 4 true Th, .sv 5 true Th, .sv 6 true Th], xid := 4, out := [.sv 0 false Te, .srow 3 1000003 3 true Th, .sv 4 true Th, .sv 5 true Th, .sv 6 true Th], hasRet := false, res := [] }), (3, { head := [.sv 0 false Te, .srow 3 1000003 3 true Th, .sv 4 true Th], xid := 0, out := [.srow 3 1000003 3 true Th], hasRet := false, res := [] })]
noncomputable def ref14_rule5_C : List (Nat × Callee) := [(62, .plain ref14_copied_fun)]
noncomputable def ref14_rule5_fun : Fun := ⟨[.sl Th], [.row 3 Th], fun x => ref14_rule5_F x.1⟩
theorem ref14_rule5_ev (x : Tys.I [.sl Th]) : evFun G0 (of_ ref14_rule5_C) A0 (ol_ ref14_rule5_L) Tryz.f57 [.sl Th] [.row 3 Th] x = ref14_rule5_T x.1 := by kernel_rfl
theorem ref14_rule5_ok : FunOk Tryz.prog 57 ref14_rule5_fun := evFun_ok mixed ctx0 (pc ref14_copied_ok (no_calls)) Tryz.func57 (by kernel_rfl) _ (fun x => congrArg Tr.run (ref14_rule5_ev x)) (by kernel_rfl) (by kernel_rfl)
noncomputable def ref14_behind_T (cs0 : List Int) (k1 : Int) : Tr Int :=
 .br (decide ((IntKind.i64.wrap (k1 + 1)) ≥ (cs0.length : Int))) (
  .pure (-1)) (
  .bnd (idx cs0 (IntKind.i64.wrap (k1 + 1))) fun x_1 =>
  .pure x_1)
noncomputable def ref14_behind_F (cs0 : List Int) (k1 : Int) : Option Int := (ref14_behind_T cs0 k1).run
def ref14_behind_L : List (Nat × LoopAnn) := []
noncomputable def ref14_behind_C : List (Nat × Callee) := []
noncomputable def ref14_behind_fun : Fun := ⟨[.sl Th, Th], [.v Th], fun x => ref14_behind_F x.1 x.2.1⟩
theorem ref14_behind_ev (x : Tys.I [.sl Th, Th]) : evFun G0 (of_ ref14_behind_C) A0 (ol_ ref14_behind_L) Tryz.f96 [.sl Th, Th] [.v Th] x = ref14_behind_T x.1 x.2.1 := by kernel_rfl
theorem ref14_behind_ok : FunOk Tryz.prog 96 ref14_behind_fun := evFun_ok mixed ctx0 (no_calls) Tryz.func96 (by kernel_rfl) _ (fun x => congrArg Tr.run (ref14_behind_ev x)) (by kernel_rfl) (by kernel_rfl)
noncomputable def ref14_rule4_L3 (out3 : List Int) (k4 : Int) : Tr (Lap (List Int × Int) (List Int)) :=
 .br (decide (k4 < (out3.length : Int))) (
  .bnd (idx out3 (IntKind.i64.wrap (k4 - 1))) fun x_2 =>
  .bnd (ref14_behind_F out3 k4) fun c_3 =>
  .bnd (idx out3 k4) fun x_4 =>
  .br (x_4 == 4) (
   .br (x_2 == 3) (
    .br (c_3 == 3) (
     .bnd (idx out3 k4) fun x_5 =>
     .bnd (idx (out3.set (Int.toNat k4) 3) k4) fun x_6 =>
     .br (x_6 == 7) (
      .br (x_2 == 3) (
       .br (c_3 == 3) (
        .bnd (idx (out3.set (Int.toNat k4) 3) k4) fun x_7 =>
        .pure (.next ((out3.set (Int.toNat k4) 3).set (Int.toNat k4) x_2, IntKind.i64.wrap (k4 + 1)))) (
        .br (x_2 == 6) (
         .br (c_3 == 6) (
          .bnd (idx (out3.set (Int.toNat k4) 3) k4) fun x_8 =>
          .pure (.next ((out3.set (Int.toNat k4) 3).set (Int.toNat k4) x_2, IntKind.i64.wrap (k4 + 1)))) (
          .pure (.next (out3.set (Int.toNat k4) 3, IntKind.i64.wrap (k4 + 1))))) (
         .pure (.next (out3.set (Int.toNat k4) 3, IntKind.i64.wrap (k4 + 1)))))) (
       .br (x_2 == 6) (
        .br (c_3 == 6) (
         .bnd (idx (out3.set (Int.toNat k4) 3) k4) fun x_9 =>
         .pure (.next ((out3.set (Int.toNat k4) 3).set (Int.toNat k4) x_2, IntKind.i64.wrap (k4 + 1)))) (
         .pure (.next (out3.set (Int.toNat k4) 3, IntKind.i64.wrap (k4 + 1))))) (
        .pure (.next (out3.set (Int.toNat k4) 3, IntKind.i64.wrap (k4 + 1)))))) (
      .pure (.next (out3.set (Int.toNat k4) 3, IntKind.i64.wrap (k4 + 1))))) (
     .bnd (idx out3 k4) fun x_10 =>
     .br (x_10 == 7) (
      .br (x_2 == 3) (
       .br (c_3 == 3) (
        .bnd (idx out3 k4) fun x_11 =>
        .pure (.next (out3.set (Int.toNat k4) x_2, IntKind.i64.wrap (k4 + 1)))) (
        .br (x_2 == 6) (
         .br (c_3 == 6) (
          .bnd (idx out3 k4) fun x_12 =>
          .pure (.next (out3.set (Int.toNat k4) x_2, IntKind.i64.wrap (k4 + 1)))) (
          .pure (.next (out3, IntKind.i64.wrap (k4 + 1))))) (
         .pure (.next (out3, IntKind.i64.wrap (k4 + 1)))))) (
       .br (x_2 == 6) (
        .br (c_3 == 6) (
         .bnd (idx out3 k4) fun x_13 =>
         .pure (.next (out3.set (Int.toNat k4) x_2, IntKind.i64.wrap (k4 + 1)))) (
         .pure (.next (out3, IntKind.i64.wrap (k4 + 1))))) (
        .pure (.next (out3, IntKind.i64.wrap (k4 + 1)))))) (
      .pure (.next (out3, IntKind.i64.wrap (k4 + 1)))))) (
    .bnd (idx out3 k4) fun x_14 =>
    .br (x_14 == 7) (
     .br (x_2 == 3) (
      .br (c_3 == 3) (
       .bnd (idx out3 k4) fun x_15 =>
       .pure (.next (out3.set (Int.toNat k4) x_2, IntKind.i64.wrap (k4 + 1)))) (
       .br (x_2 == 6) (
        .br (c_3 == 6) (
         .bnd (idx out3 k4) fun x_16 =>
         .pure (.next (out3.set (Int.toNat k4) x_2, IntKind.i64.wrap (k4 + 1)))) (
         .pure (.next (out3, IntKind.i64.wrap (k4 + 1))))) (
        .pure (.next (out3, IntKind.i64.wrap (k4 + 1)))))) (
      .br (x_2 == 6) (
       .br (c_3 == 6) (
        .bnd (idx out3 k4) fun x_17 =>
        .pure (.next (out3.set (Int.toNat k4) x_2, IntKind.i64.wrap (k4 + 1)))) (
        .pure (.next (out3, IntKind.i64.wrap (k4 + 1))))) (
       .pure (.next (out3, IntKind.i64.wrap (k4 + 1)))))) (
     .pure (.next (out3, IntKind.i64.wrap (k4 + 1)))))) (
   .bnd (idx out3 k4) fun x_18 =>
   .br (x_18 == 7) (
    .br (x_2 == 3) (
     .br (c_3 == 3) (
      .bnd (idx out3 k4) fun x_19 =>
      .pure (.next (out3.set (Int.toNat k4) x_2, IntKind.i64.wrap (k4 + 1)))) (
      .br (x_2 == 6) (
       .br (c_3 == 6) (
        .bnd (idx out3 k4) fun x_20 =>
        .pure (.next (out3.set (Int.toNat k4) x_2, IntKind.i64.wrap (k4 + 1)))) (
        .pure (.next (out3, IntKind.i64.wrap (k4 + 1))))) (
       .pure (.next (out3, IntKind.i64.wrap (k4 + 1)))))) (
     .br (x_2 == 6) (
      .br (c_3 == 6) (
       .bnd (idx out3 k4) fun x_21 =>
       .pure (.next (out3.set (Int.toNat k4) x_2, IntKind.i64.wrap (k4 + 1)))) (
       .pure (.next (out3, IntKind.i64.wrap (k4 + 1))))) (
      .pure (.next (out3, IntKind.i64.wrap (k4 + 1)))))) (
    .pure (.next (out3, IntKind.i64.wrap (k4 + 1)))))) (
  .pure (.done out3))
noncomputable def ref14_rule4_T (cs0 : List Int) : Tr (List Int) :=
 .bnd (ref14_copied_F cs0) fun c_1 =>
 .bnd (loopW (fun s => (ref14_rule4_L3 s.1 s.2).run) (c_1, 1)) fun l_22 =>
 .pure l_22
noncomputable def ref14_rule4_F (cs0 : List Int) : Option (List Int) := (ref14_rule4_T cs0).run
def ref14_rule4_L : List (Nat × LoopAnn) := [(3, { head := [.srow 3 1000003 3 true Th, .sv 4 true Th], xid := 0, out := [.srow 3 1000003 3 true Th], hasRet := false, res := [] })]
noncomputable def ref14_rule4_C : List (Nat × Callee) := [(62, .plain ref14_copied_fun), (96, .plain ref14_behind_fun)]
noncomputable def ref14_rule4_fun : Fun := ⟨[.sl Th], [.row 3 Th], fun x => ref14_rule4_F x.1⟩
theorem ref14_rule4_ev (x : Tys.I [.sl Th]) : evFun G0 (of_ ref14_rule4_C) A0 (ol_ ref14_rule4_L) Tryz.f58 [.sl Th] [.row 3 Th] x = ref14_rule4_T x.1 := by kernel_rfl
theorem ref14_rule4_ok : FunOk Tryz.prog 58 ref14_rule4_fun := evFun_ok mixed ctx0 (pc ref14_copied_ok (pc ref14_behind_ok (no_calls))) Tryz.func58 (by kernel_rfl) _ (fun x => congrArg Tr.run (ref14_rule4_ev x)) (by kernel_rfl) (by kernel_rfl)
noncomputable def ref14_rule3_L3 (out3 : List Int) (k4 : Int) : Tr (Lap (List Int × Int) (List Int)) :=
 .br (decide (k4 < (out3.length : Int))) (
  .bnd (idx out3 k4) fun x_2 =>
  .br (x_2 == 2) (
   .bnd (idx out3 k4) fun x_3 =>
   .pure (.next (out3.set (Int.toNat k4) 1, IntKind.i64.wrap (k4 + 1)))) (
   .pure (.next (out3, IntKind.i64.wrap (k4 + 1))))) (
  .pure (.done out3))
noncomputable def ref14_rule3_T (cs0 : List Int) : Tr (List Int) :=
 .bnd (ref14_copied_F cs0) fun c_1 =>
 .bnd (loopW (fun s => (ref14_rule3_L3 s.1 s.2).run) (c_1, 0)) fun l_4 =>
 .pure l_4
noncomputable def ref14_rule3_F (cs0 : List Int) : Option (List Int) := (ref14_rule3_T cs0).run
def ref14_rule3_L : List (Nat × LoopAnn) := [(3, { head := [.srow 3 1000003 3 true Th, .sv 4 true Th], xid := 0, out := [.srow 3 1000003 3 true Th], hasRet := false, res := [] })]
noncomputable def ref14_rule3_C : List (Nat × Callee) := [(62, .plain ref14_copied_fun)]
noncomputable def ref14_rule3_fun : Fun := ⟨[.sl Th], [.row 3 Th], fun x => ref14_rule3_F x.1⟩
theorem ref14_rule3_ev (x : Tys.I [.sl Th]) : evFun G0 (of_ ref14_rule3_C) A0 (ol_ ref14_rule3_L) Tryz.f59 [.sl Th] [.row 3 Th] x = ref14_rule3_T x.1 := by kernel_rfl
theorem ref14_rule3_ok : FunOk Tryz.prog 59 ref14_rule3_fun := evFun_ok mixed ctx0 (pc ref14_copied_ok (no_calls)) Tryz.func59 (by kernel_rfl) _ (fun x => congrArg Tr.run (ref14_rule3_ev x)) (by kernel_rfl) (by kernel_rfl)
noncomputable def ref14_rule2_L3 (cs0 : List Int) (sos1 : Int) (out5 : List Int) (k6 : Int) : Tr (Lap (List Int × Int × List Int × Int) (List Int)) :=
 .br (decide (k6 < (cs0.length : Int))) (
  .bnd (idx cs0 k6) fun x_2 =>
  .br (x_2 == 3) (
   .bnd (ref14_strong_F cs0 k6 sos1) fun c_3 =>
   .br (c_3 == 2) (
    .bnd (idx out5 k6) fun x_4 =>
    .pure (.next (cs0, sos1, out5.set (Int.toNat k6) 6, IntKind.i64.wrap (k6 + 1)))) (
    .pure (.next (cs0, sos1, out5, IntKind.i64.wrap (k6 + 1))))) (
   .pure (.next (cs0, sos1, out5, IntKind.i64.wrap (k6 + 1))))) (
  .pure (.done out5))
noncomputable def ref14_rule2_T (cs0 : List Int) (sos1 : Int) : Tr (List Int) :=
 .bnd (ref14_copied_F cs0) fun c_1 =>
 .bnd (loopW (fun s => (ref14_rule2_L3 s.1 s.2.1 s.2.2.1 s.2.2.2).run) (cs0, sos1, c_1, 0)) fun l_5 =>
 .pure l_5
noncomputable def ref14_rule2_F (cs0 : List Int) (sos1 : Int) : Option (List Int) := (ref14_rule2_T cs0 sos1).run
def ref14_rule2_L : List (Nat × LoopAnn) := [(3, { head := [.sv 0 false Te, .sv 1 false Th, .srow 5 1000005 3 true Th, .sv 6 true Th], xid := 0, out := [.srow 5 1000005 3 true Th], hasRet := false, res := [] })]
noncomputable def ref14_rule2_C : List (Nat × Callee) := [(62, .plain ref14_copied_fun), (95, .plain ref14_strong_fun)]
noncomputable def ref14_rule2_fun : Fun := ⟨[.sl Th, Th], [.row 3 Th], fun x => ref14_rule2_F x.1 x.2.1⟩
theorem ref14_rule2_ev (x : Tys.I [.sl Th, Th]) : evFun G0 (of_ ref14_rule2_C) A0 (ol_ ref14_rule2_L) Tryz.f60 [.sl Th, Th] [.row 3 Th] x = ref14_rule2_T x.1 x.2.1 := by kernel_rfl
theorem ref14_rule2_ok : FunOk Tryz.prog 60 ref14_rule2_fun := evFun_ok mixed ctx0 (pc ref14_copied_ok (pc ref14_strong_ok (no_calls))) Tryz.func60 (by kernel_rfl) _ (fun x => congrArg Tr.run (ref14_rule2_ev x)) (by kernel_rfl) (by kernel_rfl)
noncomputable def ref14_ahead_T (cs0 : List Int) (k1 : Int) (sos2 : Int) : Tr Int :=
 .br (k1 == 0) (
  .pure sos2) (
  .bnd (idx cs0 (IntKind.i64.wrap (k1 - 1))) fun x_1 =>
  .pure x_1)
noncomputable def ref14_ahead_F (cs0 : List Int) (k1 : Int) (sos2 : Int) : Option Int := (ref14_ahead_T cs0 k1 sos2).run
def ref14_ahead_L : List (Nat × LoopAnn) := []
noncomputable def ref14_ahead_C : List (Nat × Callee) := []
noncomputable def ref14_ahead_fun : Fun := ⟨[.sl Th, Th, Th], [.v Th], fun x => ref14_ahead_F x.1 x.2.1 x.2.2.1⟩
theorem ref14_ahead_ev (x : Tys.I [.sl Th, Th, Th]) : evFun G0 (of_ ref14_ahead_C) A0 (ol_ ref14_ahead_L) Tryz.f97 [.sl Th, Th, Th] [.v Th] x = ref14_ahead_T x.1 x.2.1 x.2.2.1 := by kernel_rfl
theorem ref14_ahead_ok : FunOk Tryz.prog 97 ref14_ahead_fun := evFun_ok mixed ctx0 (no_calls) Tryz.func97 (by kernel_rfl) _ (fun x => congrArg Tr.run (ref14_ahead_ev x)) (by kernel_rfl) (by kernel_rfl)
noncomputable def ref14_rule1_L3 (sos1 : Int) (out5 : List Int) (k6 : Int) : Tr (Lap (Int × List Int × Int) (List Int)) :=
 .br (decide (k6 < (out5.length : Int))) (
  .bnd (idx out5 k6) fun x_2 =>
  .br (x_2 != 8) (
   .pure (.next (sos1, out5, IntKind.i64.wrap (k6 + 1)))) (
   .bnd (ref14_ahead_F out5 k6 sos1) fun c_3 =>
   .br (decide (c_3 ≥ 19)) (
    .br (decide (c_3 ≤ 22)) (
     .bnd (idx out5 k6) fun x_4 =>
     .pure (.next (sos1, out5.set (Int.toNat k6) 13, IntKind.i64.wrap (k6 + 1)))) (
     .bnd (idx out5 k6) fun x_5 =>
     .pure (.next (sos1, out5.set (Int.toNat k6) c_3, IntKind.i64.wrap (k6 + 1))))) (
    .bnd (idx out5 k6) fun x_6 =>
    .pure (.next (sos1, out5.set (Int.toNat k6) c_3, IntKind.i64.wrap (k6 + 1)))))) (
  .pure (.done out5))
noncomputable def ref14_rule1_T (cs0 : List Int) (sos1 : Int) : Tr (List Int) :=
 .bnd (ref14_copied_F cs0) fun c_1 =>
 .bnd (loopW (fun s => (ref14_rule1_L3 s.1 s.2.1 s.2.2).run) (sos1, c_1, 0)) fun l_7 =>
 .pure l_7
noncomputable def ref14_rule1_F (cs0 : List Int) (sos1 : Int) : Option (List Int) := (ref14_rule1_T cs0 sos1).run
def ref14_rule1_L : List (Nat × LoopAnn) := [(3, { head := [.sv 1 false Th, .srow 5 1000005 3 true Th, .sv 6 true Th], xid := 0, out := [.srow 5 1000005 3 true Th], hasRet := false, res := [] })]
noncomputable def ref14_rule1_C : List (Nat × Callee) := [(62, .plain ref14_copied_fun), (97, .plain ref14_ahead_fun)]
noncomputable def ref14_rule1_fun : Fun := ⟨[.sl Th, Th], [.row 3 Th], fun x => ref14_rule1_F x.1 x.2.1⟩
theorem ref14_rule1_ev (x : Tys.I [.sl Th, Th]) : evFun G0 (of_ ref14_rule1_C) A0 (ol_ ref14_rule1_L) Tryz.f61 [.sl Th, Th] [.row 3 Th] x = ref14_rule1_T x.1 x.2.1 := by kernel_rfl
theorem ref14_rule1_ok : FunOk Tryz.prog 61 ref14_rule1_fun := evFun_ok mixed ctx0 (pc ref14_copied_ok (pc ref14_ahead_ok (no_calls))) Tryz.func61 (by kernel_rfl) _ (fun x => congrArg Tr.run (ref14_rule1_ev x)) (by kernel_rfl) (by kernel_rfl)
noncomputable def ref14_Weak_T (cs0 : List Int) (sos1 : Int) : Tr (List Int) :=
 .bnd (ref14_rule1_F cs0 sos1) fun c_1 =>
 .bnd (ref14_rule2_F c_1 sos1) fun c_2 =>
 .bnd (ref14_rule3_F c_2) fun c_3 =>
 .bnd (ref14_rule4_F c_3) fun c_4 =>
 .bnd (ref14_rule5_F c_4) fun c_5 =>
 .bnd (ref14_rule6_F c_5) fun c_6 =>
 .bnd (ref14_rule7_F c_6 sos1) fun c_7 =>
 .pure c_7
noncomputable def ref14_Weak_F (cs0 : List Int) (sos1 : Int) : Option (List Int) := (ref14_Weak_T cs0 sos1).run
def ref14_Weak_L : List (Nat × LoopAnn) := []
noncomputable def ref14_Weak_C : List (Nat × Callee) := [(61, .plain ref14_rule1_fun), (60, .plain ref14_rule2_fun), (59, .plain ref14_rule3_fun), (58, .plain ref14_rule4_fun), (57, .plain ref14_rule5_fun), (56, .plain ref14_rule6_fun), (55, .plain ref14_rule7_fun)]
noncomputable def ref14_Weak_fun : Fun := ⟨[.sl Th, Th], [.row 3 Th], fun x => ref14_Weak_F x.1 x.2.1⟩
theorem ref14_Weak_ev (x : Tys.I [.sl Th, Th]) : evFun G0 (of_ ref14_Weak_C) A0 (ol_ ref14_Weak_L) Tryz.f22 [.sl Th, Th] [.row 3 Th] x = ref14_Weak_T x.1 x.2.1 := by kernel_rfl
theorem ref14_Weak_ok : FunOk Tryz.prog 22 ref14_Weak_fun := evFun_ok mixed ctx0 (pc ref14_rule1_ok (pc ref14_rule2_ok (pc ref14_rule3_ok (pc ref14_rule4_ok (pc ref14_rule5_ok (pc ref14_rule6_ok (pc ref14_rule7_ok (no_calls)))))))) Tryz.func22 (by kernel_rfl) _ (fun x => congrArg Tr.run (ref14_Weak_ev x)) (by kernel_rfl) (by kernel_rfl)
noncomputable def ref14_side_T (c0 : Int) : Tr Int :=
 .br (c0 == 0) (
  .pure 0) (
  .br (c0 == 1) (
   .pure 1) (
   .br (c0 == 2) (
    .pure 1) (
    .br (c0 == 3) (
     .pure 1) (
     .br (c0 == 6) (
      .pure 1) (
      .pure (-1))))))
noncomputable def ref14_side_F (c0 : Int) : Option Int := (ref14_side_T c0).run
def ref14_side_L : List (Nat × LoopAnn) := []
noncomputable def ref14_side_C : List (Nat × Callee) := []
noncomputable def ref14_side_fun : Fun := ⟨[Th], [.v Th], fun x => ref14_side_F x.1⟩
theorem ref14_side_ev (x : Tys.I [Th]) : evFun G0 (of_ ref14_side_C) A0 (ol_ ref14_side_L) Tryz.f63 [Th] [.v Th] x = ref14_side_T x.1 := by kernel_rfl
theorem ref14_side_ok : FunOk Tryz.prog 63 ref14_side_fun := evFun_ok mixed ctx0 (no_calls) Tryz.func63 (by kernel_rfl) _ (fun x => congrArg Tr.run (ref14_side_ev x)) (by kernel_rfl) (by kernel_rfl)
noncomputable def ref14_context_L2 (cs0 : List Int) (sos2 : Int) (k7 : Int) : Tr (Lap (List Int × Int × Int) (Sum Int Int)) :=
 .br (decide (k7 ≥ 0)) (
  .bnd (idx cs0 k7) fun x_1 =>
  .bnd (ref14_side_F x_1) fun c_2 =>
  .br (decide (c_2 ≥ 0)) (
   .bnd (idx cs0 k7) fun x_3 =>
   .bnd (ref14_side_F x_3) fun c_4 =>
   .pure (.done (.inr c_4))) (
   .pure (.next (cs0, sos2, IntKind.i64.wrap (k7 - 1))))) (
  .pure (.done (.inl sos2)))
noncomputable def ref14_context_T (cs0 : List Int) (at1 : Int) (sos2 : Int) : Tr Int :=
 .alt (loopW (fun s => (ref14_context_L2 s.1 s.2.1 s.2.2).run) (cs0, sos2, IntKind.i64.wrap (at1 - 1))) (fun l_5 =>
  .pure l_5) (fun l_6 =>
  .pure l_6)
noncomputable def ref14_context_F (cs0 : List Int) (at1 : Int) (sos2 : Int) : Option Int := (ref14_context_T cs0 at1 sos2).run
def ref14_context_L : List (Nat × LoopAnn) := [(2, { head := [.sv 0 false Te, .sv 2 false Th, .sv 7 true Th], xid := 0, out := [.sv 2 false Th], hasRet := true, res := [.sv 6 true Th] })]
noncomputable def ref14_context_C : List (Nat × Callee) := [(63, .plain ref14_side_fun)]
noncomputable def ref14_context_fun : Fun := ⟨[.sl Th, Th, Th], [.v Th], fun x => ref14_context_F x.1 x.2.1 x.2.2.1⟩
theorem ref14_context_ev (x : Tys.I [.sl Th, Th, Th]) : evFun G0 (of_ ref14_context_C) A0 (ol_ ref14_context_L) Tryz.f64 [.sl Th, Th, Th] [.v Th] x = ref14_context_T x.1 x.2.1 x.2.2.1 := by kernel_rfl
theorem ref14_context_ok : FunOk Tryz.prog 64 ref14_context_fun := evFun_ok mixed ctx0 (pc ref14_side_ok (no_calls)) Tryz.func64 (by kernel_rfl) _ (fun x => congrArg Tr.run (ref14_context_ev x)) (by kernel_rfl) (by kernel_rfl)
noncomputable def ref14_Brackets_L8 (ps0 : List (List Int)) (first1 : List Int) (sos4 : Int) (out11 : List Int) (own12 : Int) (i13 : Int) (to14 : Int) (k15 : Int) : Tr (Lap (List (List Int) × List Int × Int × List Int × Int × Int × Int × Int) (List (List Int) × List Int × Int × List Int × Int × Int × Int)) :=
 .bnd (idx ps0 i13) fun x_4 =>
 .bnd (idx x_4 1) fun x_5 =>
 .br (decide (k15 < x_5)) (
  .bnd (idx out11 k15) fun x_6 =>
  .bnd (ref14_side_F x_6) fun c_7 =>
  .br (c_7 == own12) (
   .pure (.next (ps0, first1, sos4, out11, own12, i13, own12, IntKind.i64.wrap (k15 + 1)))) (
   .pure (.next (ps0, first1, sos4, out11, own12, i13, to14, IntKind.i64.wrap (k15 + 1))))) (
  .pure (.done (ps0, first1, sos4, out11, own12, i13, to14)))
noncomputable def ref14_Brackets_L14 (ps0 : List (List Int)) (first1 : List Int) (sos4 : Int) (out11 : List Int) (own12 : Int) (i13 : Int) (to14 : Int) (k16 : Int) : Tr (Lap (List (List Int) × List Int × Int × List Int × Int × Int × Int × Int) (List (List Int) × List Int × Int × List Int × Int × Int × Int)) :=
 .bnd (idx ps0 i13) fun x_11 =>
 .bnd (idx x_11 1) fun x_12 =>
 .br (decide (k16 < x_12)) (
  .bnd (idx out11 k16) fun x_13 =>
  .bnd (ref14_side_F x_13) fun c_14 =>
  .br (c_14 == (IntKind.i64.wrap (1 - own12))) (
   .bnd (idx ps0 i13) fun x_15 =>
   .bnd (idx x_15 0) fun x_16 =>
   .bnd (ref14_context_F out11 x_16 sos4) fun c_17 =>
   .pure (.next (ps0, first1, sos4, out11, own12, i13, c_17, IntKind.i64.wrap (k16 + 1)))) (
   .pure (.next (ps0, first1, sos4, out11, own12, i13, to14, IntKind.i64.wrap (k16 + 1))))) (
  .pure (.done (ps0, first1, sos4, out11, own12, i13, to14)))
noncomputable def ref14_Brackets_L24 (ps0 : List (List Int)) (first1 : List Int) (sos4 : Int) (out11 : List Int) (own12 : Int) (i13 : Int) (to14 : Int) (e17 : Int) (k18 : Int) : Tr (Lap (List (List Int) × List Int × Int × List Int × Int × Int × Int × Int × Int) (List (List Int) × List Int × Int × List Int × Int × Int × Int × Int)) :=
 .br (decide (k18 < (out11.length : Int))) (
  .bnd (idx first1 k18) fun x_24 =>
  .br (x_24 == 8) (
   .bnd (idx out11 k18) fun x_25 =>
   .pure (.next (ps0, first1, sos4, out11.set (Int.toNat k18) to14, own12, i13, to14, e17, IntKind.i64.wrap (k18 + 1)))) (
   .pure (.done (ps0, first1, sos4, out11, own12, i13, to14, e17)))) (
  .pure (.done (ps0, first1, sos4, out11, own12, i13, to14, e17)))
noncomputable def ref14_Brackets_L20 (ps0 : List (List Int)) (first1 : List Int) (sos4 : Int) (out11 : List Int) (own12 : Int) (i13 : Int) (to14 : Int) (e17 : Int) : Tr (Lap (List (List Int) × List Int × Int × List Int × Int × Int × Int × Int) (List (List Int) × List Int × Int × List Int × Int × Int)) :=
 .br (decide (e17 < 2)) (
  .bnd (idx ps0 i13) fun x_19 =>
  .bnd (idx x_19 e17) fun x_20 =>
  .bnd (idx out11 x_20) fun x_21 =>
  .bnd (idx ps0 i13) fun x_22 =>
  .bnd (idx x_22 e17) fun x_23 =>
  .bnd (loopW (fun s => (ref14_Brackets_L24 s.1 s.2.1 s.2.2.1 s.2.2.2.1 s.2.2.2.2.1 s.2.2.2.2.2.1 s.2.2.2.2.2.2.1 s.2.2.2.2.2.2.2.1 s.2.2.2.2.2.2.2.2).run) (ps0, first1, sos4, out11.set (Int.toNat x_20) to14, own12, i13, to14, e17, IntKind.i64.wrap (x_23 + 1))) fun l_26 =>
  .pure (.next (l_26.1, l_26.2.1, l_26.2.2.1, l_26.2.2.2.1, l_26.2.2.2.2.1, l_26.2.2.2.2.2.1, l_26.2.2.2.2.2.2.1, IntKind.i64.wrap (l_26.2.2.2.2.2.2.2 + 1)))) (
  .pure (.done (ps0, first1, sos4, out11, own12, i13)))
noncomputable def ref14_Brackets_L4 (ps0 : List (List Int)) (first1 : List Int) (sos4 : Int) (out11 : List Int) (own12 : Int) (i13 : Int) : Tr (Lap (List (List Int) × List Int × Int × List Int × Int × Int) (List Int)) :=
 .br (decide (i13 < (ps0.length : Int))) (
  .bnd (idx ps0 i13) fun x_2 =>
  .bnd (idx x_2 0) fun x_3 =>
  .bnd (loopW (fun s => (ref14_Brackets_L8 s.1 s.2.1 s.2.2.1 s.2.2.2.1 s.2.2.2.2.1 s.2.2.2.2.2.1 s.2.2.2.2.2.2.1 s.2.2.2.2.2.2.2).run) (ps0, first1, sos4, out11, own12, i13, (-1), IntKind.i64.wrap (x_3 + 1))) fun l_8 =>
  .br (decide (l_8.2.2.2.2.2.2 < 0)) (
   .bnd (idx l_8.1 l_8.2.2.2.2.2.1) fun x_9 =>
   .bnd (idx x_9 0) fun x_10 =>
   .bnd (loopW (fun s => (ref14_Brackets_L14 s.1 s.2.1 s.2.2.1 s.2.2.2.1 s.2.2.2.2.1 s.2.2.2.2.2.1 s.2.2.2.2.2.2.1 s.2.2.2.2.2.2.2).run) (l_8.1, l_8.2.1, l_8.2.2.1, l_8.2.2.2.1, l_8.2.2.2.2.1, l_8.2.2.2.2.2.1, l_8.2.2.2.2.2.2, IntKind.i64.wrap (x_10 + 1))) fun l_18 =>
   .br (decide (l_18.2.2.2.2.2.2 < 0)) (
    .pure (.next (l_18.1, l_18.2.1, l_18.2.2.1, l_18.2.2.2.1, l_18.2.2.2.2.1, IntKind.i64.wrap (l_18.2.2.2.2.2.1 + 1)))) (
    .bnd (loopW (fun s => (ref14_Brackets_L20 s.1 s.2.1 s.2.2.1 s.2.2.2.1 s.2.2.2.2.1 s.2.2.2.2.2.1 s.2.2.2.2.2.2.1 s.2.2.2.2.2.2.2).run) (l_18.1, l_18.2.1, l_18.2.2.1, l_18.2.2.2.1, l_18.2.2.2.2.1, l_18.2.2.2.2.2.1, l_18.2.2.2.2.2.2, 0)) fun l_27 =>
    .pure (.next (l_27.1, l_27.2.1, l_27.2.2.1, l_27.2.2.2.1, l_27.2.2.2.2.1, IntKind.i64.wrap (l_27.2.2.2.2.2 + 1))))) (
   .br (decide (l_8.2.2.2.2.2.2 < 0)) (
    .pure (.next (l_8.1, l_8.2.1, l_8.2.2.1, l_8.2.2.2.1, l_8.2.2.2.2.1, IntKind.i64.wrap (l_8.2.2.2.2.2.1 + 1)))) (
    .bnd (loopW (fun s => (ref14_Brackets_L20 s.1 s.2.1 s.2.2.1 s.2.2.2.1 s.2.2.2.2.1 s.2.2.2.2.2.1 s.2.2.2.2.2.2.1 s.2.2.2.2.2.2.2).run) (l_8.1, l_8.2.1, l_8.2.2.1, l_8.2.2.2.1, l_8.2.2.2.2.1, l_8.2.2.2.2.2.1, l_8.2.2.2.2.2.2, 0)) fun l_28 =>
    .pure (.next (l_28.1, l_28.2.1, l_28.2.2.1, l_28.2.2.2.1, l_28.2.2.2.2.1, IntKind.i64.wrap (l_28.2.2.2.2.2 + 1)))))) (
  .pure (.done out11))
noncomputable def ref14_Brackets_T (ps0 : List (List Int)) (first1 : List Int) (cs2 : List Int) (level3 : Int) (sos4 : Int) : Tr (List Int) :=
 .bnd (ref14_copied_F cs2) fun c_1 =>
 .bnd (loopW (fun s => (ref14_Brackets_L4 s.1 s.2.1 s.2.2.1 s.2.2.2.1 s.2.2.2.2.1 s.2.2.2.2.2).run) (ps0, first1, sos4, c_1, level3.tmod 2, 0)) fun l_29 =>
 .pure l_29
noncomputable def ref14_Brackets_F (ps0 : List (List Int)) (first1 : List Int) (cs2 : List Int) (level3 : Int) (sos4 : Int) : Option (List Int) := (ref14_Brackets_T ps0 first1 cs2 level3 sos4).run
def ref14_Brackets_L : List (Nat × LoopAnn) := [(8, { head := [.sv 0 false (.sl (.arr 2 Th)), .sv 1 false Te, .sv 4 false Th, .srow 11 1000011 3 true Th, .sv 12 true Th, .sv 13 true Th, .sv 14 true Th, .sv 15 true Th], xid := 2, out := [.sv 0 false (.sl (.arr 2 Th)), .sv 1 false Te, .sv 4 false Th, .srow 11 1000011 3 true Th, .sv 12 true Th, .sv 13 true Th, .sv 14 true Th], hasRet := false, res := [] }), (14, { head := [.sv 0 false (.sl (.arr 2 Th)), .sv 1 false Te, .sv 4 false Th, .srow 11 1000011 3 true Th, .sv 12 true Th, .sv 13 true Th, .sv 14 true Th, .sv 16 true Th], xid := 4, out := [.sv 0 false (.sl (.arr 2 Th)), .sv 1 false Te, .sv 4 false Th, .srow 11 1000011 3 true Th, .sv 12 true Th, .sv 13 true Th, .sv 14 true Th], hasRet := false, res := [] }), (24, { head := [.sv 0 false (.sl (.arr 2 Th)), .sv 1 false Te, .sv 4 false Th, .srow 11 1000011 3 true Th, .sv 12 true Th, .sv 13 true Th, .sv 14 true Th, .sv 17 true Th, .sv 18 true Th], xid := 8, out := [.sv 0 false (.sl (.arr 2 Th)), .sv 1 false Te, .sv 4 false Th, .srow 11 1000011 3 true Th, .sv 12 true Th, .sv 13 true Th, .sv 14 true Th, .sv 17 true Th], hasRet := false, res := [] }), (20, { head := [.sv 0 false (.sl (.arr 2 Th)), .sv 1 false Te, .sv 4 false Th, .srow 11 1000011 3 true Th, .sv 12 true Th, .sv 13 true Th, .sv 14 true Th, .sv 17 true Th], xid := 6, out := [.sv 0 false (.sl (.arr 2 Th)), .sv 1 false Te, .sv 4 false Th, .srow 11 1000011 3 true Th, .sv 12 true Th, .sv 13 true Th], hasRet := false, res := [] }), (4, { head := [.sv 0 false (.sl (.arr 2 Th)), .sv 1 false Te, .sv 4 false Th, .srow 11 1000011 3 true Th, .sv 12 true Th, .sv 13 true Th], xid := 0, out := [.srow 11 1000011 3 true Th], hasRet := false, res := [] })]
noncomputable def ref14_Brackets_C : List (Nat × Callee) := [(62, .plain ref14_copied_fun), (63, .plain ref14_side_fun), (64, .plain ref14_context_fun)]
noncomputable def ref14_Brackets_fun : Fun := ⟨[.sl (.arr 2 Th), .sl Th, .sl Th, Th, Th], [.row 3 Th], fun x => ref14_Brackets_F x.1 x.2.1 x.2.2.1 x.2.2.2.1 x.2.2.2.2.1⟩
theorem ref14_Brackets_ev (x : Tys.I [.sl (.arr 2 Th), .sl Th, .sl Th, Th, Th]) : evFun G0 (of_ ref14_Brackets_C) A0 (ol_ ref14_Brackets_L) Tryz.f23 [.sl (.arr 2 Th), .sl Th, .sl Th, Th, Th] [.row 3 Th] x = ref14_Brackets_T x.1 x.2.1 x.2.2.1 x.2.2.2.1 x.2.2.2.2.1 := by kernel_rfl
theorem ref14_Brackets_ok : FunOk Tryz.prog 23 ref14_Brackets_fun := evFun_ok mixed ctx0 (pc ref14_copied_ok (pc ref14_side_ok (pc ref14_context_ok (no_calls)))) Tryz.func23 (by kernel_rfl) _ (fun x => congrArg Tr.run (ref14_Brackets_ev x)) (by kernel_rfl) (by kernel_rfl)
noncomputable def ref04_Mirrors_T : Tr (List (List Int)) :=
 .pure ([[40, 41], [60, 62], [91, 93], [123, 125], [171, 187], [8249, 8250], [8261, 8262], [8317, 8318], [8333, 8334], [8712, 8715], [8713, 8716], [8804, 8805], [8806, 8807], [8810, 8811], [8834, 8835], [8838, 8839], [8968, 8969], [8970, 8971], [9001, 9002], [10214, 10215], [10216, 10217], [10218, 10219], [10627, 10628], [12296, 12297], [12298, 12299], [12300, 12301], [12302, 12303], [12304, 12305], [12308, 12309], [12310, 12311], [65288, 65289], [65308, 65310], [65339, 65341], [65371, 65373], [65378, 65379]])
noncomputable def ref04_Mirrors_F : Option (List (List Int)) := (ref04_Mirrors_T).run
def ref04_Mirrors_L : List (Nat × LoopAnn) := []
noncomputable def ref04_Mirrors_C : List (Nat × Callee) := []
noncomputable def ref04_Mirrors_fun : Fun := ⟨[], [.row 105 (.arr 2 Th)], fun _ => ref04_Mirrors_F⟩
theorem ref04_Mirrors_ev (x : Tys.I []) : evFun G0 (of_ ref04_Mirrors_C) A0 (ol_ ref04_Mirrors_L) Tryz.f98 [] [.row 105 (.arr 2 Th)] x = ref04_Mirrors_T := by kernel_rfl
theorem ref04_Mirrors_ok : FunOk Tryz.prog 98 ref04_Mirrors_fun := evFun_ok mixed ctx0 (no_calls) Tryz.func98 (by kernel_rfl) _ (fun x => congrArg Tr.run (ref04_Mirrors_ev x)) (by kernel_rfl) (by kernel_rfl)
noncomputable def ref04_Plain_T : Tr (List Int) :=
 .pure ([60, 171, 8249, 8712, 8713, 8804, 8806, 8810, 8834, 8838, 65308])
noncomputable def ref04_Plain_F : Option (List Int) := (ref04_Plain_T).run
def ref04_Plain_L : List (Nat × LoopAnn) := []
noncomputable def ref04_Plain_C : List (Nat × Callee) := []
noncomputable def ref04_Plain_fun : Fun := ⟨[], [.row 3 Th], fun _ => ref04_Plain_F⟩
theorem ref04_Plain_ev (x : Tys.I []) : evFun G0 (of_ ref04_Plain_C) A0 (ol_ ref04_Plain_L) Tryz.f99 [] [.row 3 Th] x = ref04_Plain_T := by kernel_rfl
theorem ref04_Plain_ok : FunOk Tryz.prog 99 ref04_Plain_fun := evFun_ok mixed ctx0 (no_calls) Tryz.func99 (by kernel_rfl) _ (fun x => congrArg Tr.run (ref04_Plain_ev x)) (by kernel_rfl) (by kernel_rfl)
noncomputable def ref04_Bracket_L8 (r0 : Int) (t4 : List (List Int)) (k5 : Int) (p6 : List Int) (i7 : Int) : Tr (Lap (Int × List (List Int) × Int × List Int × Int) (Sum (Int × List (List Int) × Int) (Int × Int))) :=
 .br (decide (i7 < (p6.length : Int))) (
  .bnd (idx p6 i7) fun x_7 =>
  .bnd (idx t4 k5) fun x_8 =>
  .bnd (idx x_8 0) fun x_9 =>
  .br (x_7 == x_9) (
   .pure (.done (.inr (0, 0)))) (
   .pure (.next (r0, t4, k5, p6, IntKind.i64.wrap (i7 + 1))))) (
  .pure (.done (.inl (r0, t4, k5))))
noncomputable def ref04_Bracket_L3 (r0 : Int) (t4 : List (List Int)) (k5 : Int) : Tr (Lap (Int × List (List Int) × Int) (Sum Unit (Int × Int))) :=
 .br (decide (k5 < (t4.length : Int))) (
  .bnd (idx t4 k5) fun x_2 =>
  .bnd (idx x_2 0) fun x_3 =>
  .br (x_3 != r0) (
   .bnd (idx t4 k5) fun x_4 =>
   .bnd (idx x_4 1) fun x_5 =>
   .br (x_5 != r0) (
    .pure (.next (r0, t4, IntKind.i64.wrap (k5 + 1)))) (
    .bnd ref04_Plain_F fun c_6 =>
    .alt (loopW (fun s => (ref04_Bracket_L8 s.1 s.2.1 s.2.2.1 s.2.2.2.1 s.2.2.2.2).run) (r0, t4, k5, c_6, 0)) (fun l_10 =>
     .bnd (idx l_10.2.1 l_10.2.2) fun x_11 =>
     .bnd (idx x_11 0) fun x_12 =>
     .br (x_12 == 9001) (
      .bnd (idx l_10.2.1 l_10.2.2) fun x_13 =>
      .bnd (idx x_13 0) fun x_14 =>
      .br (x_14 == l_10.1) (
       .pure (.done (.inr (1, 12296)))) (
       .pure (.done (.inr (2, 12296))))) (
      .bnd (idx l_10.2.1 l_10.2.2) fun x_15 =>
      .bnd (idx x_15 0) fun x_16 =>
      .br (x_16 == l_10.1) (
       .pure (.done (.inr (1, x_12)))) (
       .pure (.done (.inr (2, x_12)))))) (fun l_17 =>
     .pure (.done (.inr (l_17.1, l_17.2)))))) (
   .bnd ref04_Plain_F fun c_18 =>
   .alt (loopW (fun s => (ref04_Bracket_L8 s.1 s.2.1 s.2.2.1 s.2.2.2.1 s.2.2.2.2).run) (r0, t4, k5, c_18, 0)) (fun l_19 =>
    .bnd (idx l_19.2.1 l_19.2.2) fun x_20 =>
    .bnd (idx x_20 0) fun x_21 =>
    .br (x_21 == 9001) (
     .bnd (idx l_19.2.1 l_19.2.2) fun x_22 =>
     .bnd (idx x_22 0) fun x_23 =>
     .br (x_23 == l_19.1) (
      .pure (.done (.inr (1, 12296)))) (
      .pure (.done (.inr (2, 12296))))) (
     .bnd (idx l_19.2.1 l_19.2.2) fun x_24 =>
     .bnd (idx x_24 0) fun x_25 =>
     .br (x_25 == l_19.1) (
      .pure (.done (.inr (1, x_21)))) (
      .pure (.done (.inr (2, x_21)))))) (fun l_26 =>
    .pure (.done (.inr (l_26.1, l_26.2)))))) (
  .pure (.done (.inl ())))
noncomputable def ref04_Bracket_T (r0 : Int) : Tr (Int × Int) :=
 .bnd ref04_Mirrors_F fun c_1 =>
 .alt (loopW (fun s => (ref04_Bracket_L3 s.1 s.2.1 s.2.2).run) (r0, c_1, 0)) (fun l_27 =>
  .pure (0, 0)) (fun l_28 =>
  .pure (l_28.1, l_28.2))
noncomputable def ref04_Bracket_F (r0 : Int) : Option (Int × Int) := (ref04_Bracket_T r0).run
def ref04_Bracket_L : List (Nat × LoopAnn) := [(8, { head := [.sv 0 false Th, .srow 4 1000004 105 true (.arr 2 Th), .sv 5 true Th, .srow 6 1000006 3 true Th, .sv 7 true Th], xid := 2, out := [.sv 0 false Th, .srow 4 1000004 105 true (.arr 2 Th), .sv 5 true Th], hasRet := true, res := [.sv 2 true Th, .sv 3 true Th] }), (3, { head := [.sv 0 false Th, .srow 4 1000004 105 true (.arr 2 Th), .sv 5 true Th], xid := 0, out := [], hasRet := true, res := [.sv 2 true Th, .sv 3 true Th] })]
noncomputable def ref04_Bracket_C : List (Nat × Callee) := [(98, .plain ref04_Mirrors_fun), (99, .plain ref04_Plain_fun)]
noncomputable def ref04_Bracket_fun : Fun := ⟨[Th], [.v Th, .v Th], fun x => ref04_Bracket_F x.1⟩
theorem ref04_Bracket_ev (x : Tys.I [Th]) : evFun G0 (of_ ref04_Bracket_C) A0 (ol_ ref04_Bracket_L) Tryz.f65 [Th] [.v Th, .v Th] x = ref04_Bracket_T x.1 := by kernel_rfl
theorem ref04_Bracket_ok : FunOk Tryz.prog 65 ref04_Bracket_fun := evFun_ok mixed ctx0 (pc ref04_Mirrors_ok (pc ref04_Plain_ok (no_calls))) Tryz.func65 (by kernel_rfl) _ (fun x => congrArg Tr.run (ref04_Bracket_ev x)) (by kernel_rfl) (by kernel_rfl)
noncomputable def ref14_Pairs_L3 (sides0 : List Int) (ids1 : List Int) (mate5 : List Int) (k6 : Int) : Tr (Lap (List Int × List Int × List Int × Int) (List Int × List Int × List Int)) :=
 .br (decide (k6 < (mate5.length : Int))) (
  .bnd (idx mate5 k6) fun x_2 =>
  .pure (.next (sides0, ids1, mate5.set (Int.toNat k6) (-1), IntKind.i64.wrap (k6 + 1)))) (
  .pure (.done (sides0, ids1, mate5)))
noncomputable def ref14_Pairs_L15 (sides0 : List Int) (ids1 : List Int) (mate5 : List Int) (stack7 : List Int) (k8 : Int) (at9 : Int) : Tr (Lap (List Int × List Int × List Int × List Int × Int × Int) (List Int × List Int × List Int × List Int × Int × Int)) :=
 .br (decide (at9 ≥ 0)) (
  .bnd (idx stack7 at9) fun x_7 =>
  .bnd (idx ids1 x_7) fun x_8 =>
  .bnd (idx ids1 k8) fun x_9 =>
  .br (x_8 != x_9) (
   .pure (.next (sides0, ids1, mate5, stack7, k8, IntKind.i64.wrap (at9 - 1)))) (
   .pure (.done (sides0, ids1, mate5, stack7, k8, at9)))) (
  .pure (.done (sides0, ids1, mate5, stack7, k8, at9)))
noncomputable def ref14_Pairs_L8 (sides0 : List Int) (ids1 : List Int) (mate5 : List Int) (stack7 : List Int) (k8 : Int) : Tr (Lap (List Int × List Int × List Int × List Int × Int) (List Int)) :=
 .br (decide (k8 < (sides0.length : Int))) (
  .bnd (idx sides0 k8) fun x_4 =>
  .br (x_4 == 1) (
   .br ((stack7.length : Int) == 63) (
    .pure (.done mate5)) (
    .bnd (app 17592186044416 stack7 ([k8])) fun r_5 =>
    .bnd (idx sides0 k8) fun x_6 =>
    .br (x_6 != 2) (
     .pure (.next (sides0, ids1, mate5, r_5, IntKind.i64.wrap (k8 + 1)))) (
     .bnd (loopW (fun s => (ref14_Pairs_L15 s.1 s.2.1 s.2.2.1 s.2.2.2.1 s.2.2.2.2.1 s.2.2.2.2.2).run) (sides0, ids1, mate5, r_5, k8, IntKind.i64.wrap ((r_5.length : Int) - 1))) fun l_10 =>
     .br (decide (l_10.2.2.2.2.2 ≥ 0)) (
      .bnd (idx l_10.2.2.2.1 l_10.2.2.2.2.2) fun x_11 =>
      .bnd (idx l_10.2.2.1 x_11) fun x_12 =>
      .bnd (cut l_10.2.2.2.1 0 l_10.2.2.2.2.2) fun r_13 =>
      .pure (.next (l_10.1, l_10.2.1, l_10.2.2.1.set (Int.toNat x_11) l_10.2.2.2.2.1, r_13, IntKind.i64.wrap (l_10.2.2.2.2.1 + 1)))) (
      .pure (.next (l_10.1, l_10.2.1, l_10.2.2.1, l_10.2.2.2.1, IntKind.i64.wrap (l_10.2.2.2.2.1 + 1))))))) (
   .bnd (idx sides0 k8) fun x_14 =>
   .br (x_14 != 2) (
    .pure (.next (sides0, ids1, mate5, stack7, IntKind.i64.wrap (k8 + 1)))) (
    .bnd (loopW (fun s => (ref14_Pairs_L15 s.1 s.2.1 s.2.2.1 s.2.2.2.1 s.2.2.2.2.1 s.2.2.2.2.2).run) (sides0, ids1, mate5, stack7, k8, IntKind.i64.wrap ((stack7.length : Int) - 1))) fun l_15 =>
    .br (decide (l_15.2.2.2.2.2 ≥ 0)) (
     .bnd (idx l_15.2.2.2.1 l_15.2.2.2.2.2) fun x_16 =>
     .bnd (idx l_15.2.2.1 x_16) fun x_17 =>
     .bnd (cut l_15.2.2.2.1 0 l_15.2.2.2.2.2) fun r_18 =>
     .pure (.next (l_15.1, l_15.2.1, l_15.2.2.1.set (Int.toNat x_16) l_15.2.2.2.2.1, r_18, IntKind.i64.wrap (l_15.2.2.2.2.1 + 1)))) (
     .pure (.next (l_15.1, l_15.2.1, l_15.2.2.1, l_15.2.2.2.1, IntKind.i64.wrap (l_15.2.2.2.2.1 + 1))))))) (
  .pure (.done mate5))
noncomputable def ref14_Pairs_L22 (mate5 : List Int) (out10 : List (List Int)) (k11 : Int) : Tr (Lap (List Int × List (List Int) × Int) (List (List Int))) :=
 .br (decide (k11 < (mate5.length : Int))) (
  .bnd (idx mate5 k11) fun x_20 =>
  .br (decide (x_20 ≥ 0)) (
   .bnd (idx mate5 k11) fun x_21 =>
   .bnd (app 8796093022208 out10 ([[k11, x_21]])) fun r_22 =>
   .pure (.next (mate5, r_22, IntKind.i64.wrap (k11 + 1)))) (
   .pure (.next (mate5, out10, IntKind.i64.wrap (k11 + 1))))) (
  .pure (.done out10))
noncomputable def ref14_Pairs_T (sides0 : List Int) (ids1 : List Int) : Tr (List (List Int)) :=
 .bnd (mk 17592186044416 0 (sides0.length : Int)) fun r_1 =>
 .bnd (loopW (fun s => (ref14_Pairs_L3 s.1 s.2.1 s.2.2.1 s.2.2.2).run) (sides0, ids1, r_1, 0)) fun l_3 =>
 .bnd (loopW (fun s => (ref14_Pairs_L8 s.1 s.2.1 s.2.2.1 s.2.2.2.1 s.2.2.2.2).run) (l_3.1, l_3.2.1, l_3.2.2, [], 0)) fun l_19 =>
 .bnd (loopW (fun s => (ref14_Pairs_L22 s.1 s.2.1 s.2.2).run) (l_19, [], 0)) fun l_23 =>
 .pure l_23
noncomputable def ref14_Pairs_F (sides0 : List Int) (ids1 : List Int) : Option (List (List Int)) := (ref14_Pairs_T sides0 ids1).run
def ref14_Pairs_L : List (Nat × LoopAnn) := [(3, { head := [.sv 0 false Te, .sv 1 false Te, .srow 5 1000005 3 true Th, .sv 6 true Th], xid := 0, out := [.sv 0 false Te, .sv 1 false Te, .srow 5 1000005 3 true Th], hasRet := false, res := [] }), (15, { head := [.sv 0 false Te, .sv 1 false Te, .srow 5 1000005 3 true Th, .srow 7 1000007 3 true Th, .sv 8 true Th, .sv 9 true Th], xid := 4, out := [.sv 0 false Te, .sv 1 false Te, .srow 5 1000005 3 true Th, .srow 7 1000007 3 true Th, .sv 8 true Th, .sv 9 true Th], hasRet := false, res := [] }), (8, { head := [.sv 0 false Te, .sv 1 false Te, .srow 5 1000005 3 true Th, .srow 7 1000007 3 true Th, .sv 8 true Th], xid := 2, out := [.srow 5 1000005 3 true Th], hasRet := false, res := [] }), (22, { head := [.srow 5 1000005 3 true Th, .srow 10 1000010 105 true (.arr 2 Th), .sv 11 true Th], xid := 6, out := [.srow 10 1000010 105 true (.arr 2 Th)], hasRet := false, res := [] })]
noncomputable def ref14_Pairs_C : List (Nat × Callee) := []
noncomputable def ref14_Pairs_fun : Fun := ⟨[.sl Th, .sl Th], [.row 105 (.arr 2 Th)], fun x => ref14_Pairs_F x.1 x.2.1⟩
theorem ref14_Pairs_ev (x : Tys.I [.sl Th, .sl Th]) : evFun G0 (of_ ref14_Pairs_C) ⟨[79], [], [], [], [], []⟩ (ol_ ref14_Pairs_L) Tryz.f66 [.sl Th, .sl Th] [.row 105 (.arr 2 Th)] x = ref14_Pairs_T x.1 x.2.1 := by kernel_rfl
theorem ref14_Pairs_ok : FunOk Tryz.prog 66 ref14_Pairs_fun := evFun_ok mixed ctx0 (no_calls) Tryz.func66 (by kernel_rfl) _ (fun x => congrArg Tr.run (ref14_Pairs_ev x)) (by kernel_rfl) (by kernel_rfl)
noncomputable def law15_Want_L3 (rs0 : List Int) (cs1 : List Int) (sides5 : List Int) (ids6 : List Int) (k7 : Int) : Tr (Lap (List Int × List Int × List Int × List Int × Int) (List Int × List Int)) :=
 .br (decide (k7 < (rs0.length : Int))) (
  .br (decide (k7 < (cs1.length : Int))) (
   .bnd (idx rs0 k7) fun x_1 =>
   .bnd (ref04_Bracket_F (IntKind.i64.wrap x_1)) fun c_2 =>
   .bnd (idx cs1 k7) fun x_3 =>
   .br (x_3 != 13) (
    .bnd (app 17592186044416 sides5 ([0])) fun r_4 =>
    .bnd (app 17592186044416 ids6 ([c_2.2])) fun r_5 =>
    .pure (.next (rs0, cs1, r_4, r_5, IntKind.i64.wrap (k7 + 1)))) (
    .bnd (app 17592186044416 sides5 ([c_2.1])) fun r_6 =>
    .bnd (app 17592186044416 ids6 ([c_2.2])) fun r_7 =>
    .pure (.next (rs0, cs1, r_6, r_7, IntKind.i64.wrap (k7 + 1))))) (
   .pure (.done (sides5, ids6)))) (
  .pure (.done (sides5, ids6)))
noncomputable def law15_Want_T (rs0 : List Int) (cs1 : List Int) : Tr (List (List Int)) :=
 .bnd (loopW (fun s => (law15_Want_L3 s.1 s.2.1 s.2.2.1 s.2.2.2.1 s.2.2.2.2).run) (rs0, cs1, [], [], 0)) fun l_8 =>
 .bnd (ref14_Pairs_F l_8.1 l_8.2) fun c_9 =>
 .pure c_9
noncomputable def law15_Want_F (rs0 : List Int) (cs1 : List Int) : Option (List (List Int)) := (law15_Want_T rs0 cs1).run
def law15_Want_L : List (Nat × LoopAnn) := [(3, { head := [.sv 0 false Tg, .sv 1 false Tf, .srow 5 1000005 3 true Th, .srow 6 1000006 3 true Th, .sv 7 true Th], xid := 0, out := [.srow 5 1000005 3 true Th, .srow 6 1000006 3 true Th], hasRet := false, res := [] })]
noncomputable def law15_Want_C : List (Nat × Callee) := [(65, .plain ref04_Bracket_fun), (66, .plain ref14_Pairs_fun)]
noncomputable def law15_Want_fun : Fun := ⟨[.sl Tj, .sl Ti], [.row 105 (.arr 2 Th)], fun x => law15_Want_F x.1 x.2.1⟩
theorem law15_Want_ev (x : Tys.I [.sl Tj, .sl Ti]) : evFun G0 (of_ law15_Want_C) A0 (ol_ law15_Want_L) Tryz.f24 [.sl Tj, .sl Ti] [.row 105 (.arr 2 Th)] x = law15_Want_T x.1 x.2.1 := by kernel_rfl
theorem law15_Want_ok : FunOk Tryz.prog 24 law15_Want_fun := evFun_ok mixed ctx0 (pc ref04_Bracket_ok (pc ref14_Pairs_ok (no_calls))) Tryz.func24 (by kernel_rfl) _ (fun x => congrArg Tr.run (law15_Want_ev x)) (by kernel_rfl) (by kernel_rfl)
noncomputable def ref14_Rest_L9 (cs0 : List Int) (level1 : Int) (sos2 : Int) (eos3 : Int) (out9 : List Int) (k10 : Int) (a11 : Int) (b12 : Int) (i13 : Int) : Tr (Lap (List Int × Int × Int × Int × List Int × Int × Int × Int × Int) (List Int × Int × Int × Int × List Int × Int × Int × Int)) :=
 .br (decide (i13 > k10)) (
  .bnd (idx cs0 i13) fun x_5 =>
  .bnd (ref14_side_F x_5) fun c_6 =>
  .br (decide (c_6 ≥ 0)) (
   .bnd (idx cs0 i13) fun x_7 =>
   .bnd (ref14_side_F x_7) fun c_8 =>
   .pure (.next (cs0, level1, sos2, eos3, out9, k10, a11, c_8, IntKind.i64.wrap (i13 - 1)))) (
   .pure (.next (cs0, level1, sos2, eos3, out9, k10, a11, b12, IntKind.i64.wrap (i13 - 1))))) (
  .pure (.done (cs0, level1, sos2, eos3, out9, k10, a11, b12)))
noncomputable def ref14_Rest_L3 (cs0 : List Int) (level1 : Int) (sos2 : Int) (eos3 : Int) (out9 : List Int) (k10 : Int) : Tr (Lap (List Int × Int × Int × Int × List Int × Int) (List Int)) :=
 .br (decide (k10 < (cs0.length : Int))) (
  .bnd (idx cs0 k10) fun x_2 =>
  .bnd (ref14_side_F x_2) fun c_3 =>
  .br (decide (c_3 ≥ 0)) (
   .pure (.next (cs0, level1, sos2, eos3, out9, IntKind.i64.wrap (k10 + 1)))) (
   .bnd (ref14_context_F cs0 k10 sos2) fun c_4 =>
   .bnd (loopW (fun s => (ref14_Rest_L9 s.1 s.2.1 s.2.2.1 s.2.2.2.1 s.2.2.2.2.1 s.2.2.2.2.2.1 s.2.2.2.2.2.2.1 s.2.2.2.2.2.2.2.1 s.2.2.2.2.2.2.2.2).run) (cs0, level1, sos2, eos3, out9, k10, c_4, eos3, IntKind.i64.wrap ((cs0.length : Int) - 1))) fun l_9 =>
   .bnd (idx l_9.2.2.2.2.1 l_9.2.2.2.2.2.1) fun x_10 =>
   .br (l_9.2.2.2.2.2.2.1 == l_9.2.2.2.2.2.2.2) (
    .bnd (idx (l_9.2.2.2.2.1.set (Int.toNat l_9.2.2.2.2.2.1) (l_9.2.1.tmod 2)) l_9.2.2.2.2.2.1) fun x_11 =>
    .pure (.next (l_9.1, l_9.2.1, l_9.2.2.1, l_9.2.2.2.1, (l_9.2.2.2.2.1.set (Int.toNat l_9.2.2.2.2.2.1) (l_9.2.1.tmod 2)).set (Int.toNat l_9.2.2.2.2.2.1) l_9.2.2.2.2.2.2.1, IntKind.i64.wrap (l_9.2.2.2.2.2.1 + 1)))) (
    .pure (.next (l_9.1, l_9.2.1, l_9.2.2.1, l_9.2.2.2.1, l_9.2.2.2.2.1.set (Int.toNat l_9.2.2.2.2.2.1) (l_9.2.1.tmod 2), IntKind.i64.wrap (l_9.2.2.2.2.2.1 + 1)))))) (
  .pure (.done out9))
noncomputable def ref14_Rest_T (cs0 : List Int) (level1 : Int) (sos2 : Int) (eos3 : Int) : Tr (List Int) :=
 .bnd (ref14_copied_F cs0) fun c_1 =>
 .bnd (loopW (fun s => (ref14_Rest_L3 s.1 s.2.1 s.2.2.1 s.2.2.2.1 s.2.2.2.2.1 s.2.2.2.2.2).run) (cs0, level1, sos2, eos3, c_1, 0)) fun l_12 =>
 .pure l_12
noncomputable def ref14_Rest_F (cs0 : List Int) (level1 : Int) (sos2 : Int) (eos3 : Int) : Option (List Int) := (ref14_Rest_T cs0 level1 sos2 eos3).run
def ref14_Rest_L : List (Nat × LoopAnn) := [(9, { head := [.sv 0 false Te, .sv 1 false Th, .sv 2 false Th, .sv 3 false Th, .srow 9 1000009 3 true Th, .sv 10 true Th, .sv 11 true Th, .sv 12 false Th, .sv 13 true Th], xid := 2, out := [.sv 0 false Te, .sv 1 false Th, .sv 2 false Th, .sv 3 false Th, .srow 9 1000009 3 true Th, .sv 10 true Th, .sv 11 true Th, .sv 12 false Th], hasRet := false, res := [] }), (3, { head := [.sv 0 false Te, .sv 1 false Th, .sv 2 false Th, .sv 3 false Th, .srow 9 1000009 3 true Th, .sv 10 true Th], xid := 0, out := [.srow 9 1000009 3 true Th], hasRet := false, res := [] })]
noncomputable def ref14_Rest_C : List (Nat × Callee) := [(62, .plain ref14_copied_fun), (63, .plain ref14_side_fun), (64, .plain ref14_context_fun)]
noncomputable def ref14_Rest_fun : Fun := ⟨[.sl Th, Th, Th, Th], [.row 3 Th], fun x => ref14_Rest_F x.1 x.2.1 x.2.2.1 x.2.2.2.1⟩
theorem ref14_Rest_ev (x : Tys.I [.sl Th, Th, Th, Th]) : evFun G0 (of_ ref14_Rest_C) A0 (ol_ ref14_Rest_L) Tryz.f25 [.sl Th, Th, Th, Th] [.row 3 Th] x = ref14_Rest_T x.1 x.2.1 x.2.2.1 x.2.2.2.1 := by kernel_rfl
theorem ref14_Rest_ok : FunOk Tryz.prog 25 ref14_Rest_fun := evFun_ok mixed ctx0 (pc ref14_copied_ok (pc ref14_side_ok (pc ref14_context_ok (no_calls)))) Tryz.func25 (by kernel_rfl) _ (fun x => congrArg Tr.run (ref14_Rest_ev x)) (by kernel_rfl) (by kernel_rfl)
noncomputable def ref14_Implicit_T (c0 : Int) (level1 : Int) : Tr Int :=
 .br ((level1.tmod 2) == 0) (
  .br (c0 == 1) (
   .pure (IntKind.i64.wrap (level1 + 1))) (
   .br (c0 == 3) (
    .pure (IntKind.i64.wrap (level1 + 2))) (
    .br (c0 == 6) (
     .pure (IntKind.i64.wrap (level1 + 2))) (
     .pure level1)))) (
  .br (c0 == 0) (
   .pure (IntKind.i64.wrap (level1 + 1))) (
   .br (c0 == 3) (
    .pure (IntKind.i64.wrap (level1 + 1))) (
    .br (c0 == 6) (
     .pure (IntKind.i64.wrap (level1 + 1))) (
     .pure level1))))
noncomputable def ref14_Implicit_F (c0 : Int) (level1 : Int) : Option Int := (ref14_Implicit_T c0 level1).run
def ref14_Implicit_L : List (Nat × LoopAnn) := []
noncomputable def ref14_Implicit_C : List (Nat × Callee) := []
noncomputable def ref14_Implicit_fun : Fun := ⟨[Th, Th], [.v Th], fun x => ref14_Implicit_F x.1 x.2.1⟩
theorem ref14_Implicit_ev (x : Tys.I [Th, Th]) : evFun G0 (of_ ref14_Implicit_C) A0 (ol_ ref14_Implicit_L) Tryz.f26 [Th, Th] [.v Th] x = ref14_Implicit_T x.1 x.2.1 := by kernel_rfl
theorem ref14_Implicit_ok : FunOk Tryz.prog 26 ref14_Implicit_fun := evFun_ok mixed ctx0 (no_calls) Tryz.func26 (by kernel_rfl) _ (fun x => congrArg Tr.run (ref14_Implicit_ev x)) (by kernel_rfl) (by kernel_rfl)
noncomputable def law18_Want_L9 (rs0 : List Int) (cs1 : List Int) (out7 : List Int) (over8 : List Int) (s11 : List Int × Int × Int × Int) (first12 : List Int) (scalars13 : List Int) (t35 : List (List Int × Int × Int × Int)) (t36 : Int) (t37 : Int) (t42 : List Int) (t43 : Int) (t44 : Int) : Tr (Lap (List Int × List Int × List Int × List Int × (List Int × Int × Int × Int) × List Int × List Int × (List (List Int × Int × Int × Int)) × Int × Int × List Int × Int × Int) (List Int × List Int × List Int × List Int × (List Int × Int × Int × Int) × List Int × List Int × (List (List Int × Int × Int × Int)) × Int × Int)) :=
 .br (decide (t44 < t43)) (
  .bnd (idx t42 t44) fun x_7 =>
  .bnd (idx over8 x_7) fun x_8 =>
  .bnd (app 17592186044416 first12 ([x_8])) fun r_9 =>
  .bnd (idx rs0 x_7) fun x_10 =>
  .bnd (app 35184372088832 scalars13 ([x_10])) fun r_11 =>
  .pure (.next (rs0, cs1, out7, over8, s11, r_9, r_11, t35, t36, t37, t42, t43, IntKind.i64.wrap (t44 + 1)))) (
  .pure (.done (rs0, cs1, out7, over8, s11, first12, scalars13, t35, t36, t37)))
noncomputable def law18_Want_L17 (rs0 : List Int) (cs1 : List Int) (out7 : List Int) (over8 : List Int) (s11 : List Int × Int × Int × Int) (first12 : List Int) (scalars13 : List Int) (w16 : List Int) (ws17 : List Int) (t35 : List (List Int × Int × Int × Int)) (t36 : Int) (t37 : Int) (t69 : Int) (t70 : Int) : Tr (Lap (List Int × List Int × List Int × List Int × (List Int × Int × Int × Int) × List Int × List Int × List Int × List Int × (List (List Int × Int × Int × Int)) × Int × Int × Int × Int) (List Int × List Int × List Int × List Int × (List Int × Int × Int × Int) × List Int × List Int × List Int × List Int × (List (List Int × Int × Int × Int)) × Int × Int)) :=
 .br (decide (t70 < t69)) (
  .bnd (idx w16 t70) fun x_15 =>
  .bnd (app 140737488355328 ws17 ([IntKind.u8.wrap x_15])) fun r_16 =>
  .pure (.next (rs0, cs1, out7, over8, s11, first12, scalars13, w16, r_16, t35, t36, t37, t69, IntKind.i64.wrap (t70 + 1)))) (
  .pure (.done (rs0, cs1, out7, over8, s11, first12, scalars13, w16, ws17, t35, t36, t37)))
noncomputable def law18_Want_L24 (rs0 : List Int) (cs1 : List Int) (out7 : List Int) (over8 : List Int) (s11 : List Int × Int × Int × Int) (n20 : List Int) (t35 : List (List Int × Int × Int × Int)) (t36 : Int) (t37 : Int) (t102 : List Int) (t103 : Int) (t104 : Int) : Tr (Lap (List Int × List Int × List Int × List Int × (List Int × Int × Int × Int) × List Int × (List (List Int × Int × Int × Int)) × Int × Int × List Int × Int × Int) (List Int × List Int × List Int × List Int × (List (List Int × Int × Int × Int)) × Int × Int)) :=
 .br (decide (t104 < t103)) (
  .bnd (idx t102 t104) fun x_27 =>
  .bnd (idx cs1 x_27) fun x_28 =>
  .br (x_28 != 10) (
   .bnd (idx n20 t104) fun x_29 =>
   .bnd (idx ([s11]) 0) fun x_30 =>
   .bnd (ref14_Implicit_F x_29 x_30.2.1) fun c_31 =>
   .bnd (idx out7 x_27) fun x_32 =>
   .pure (.next (rs0, cs1, out7.set (Int.toNat x_27) c_31, over8, s11, n20, t35, t36, t37, t102, t103, IntKind.i64.wrap (t104 + 1)))) (
   .pure (.next (rs0, cs1, out7, over8, s11, n20, t35, t36, t37, t102, t103, IntKind.i64.wrap (t104 + 1))))) (
  .pure (.done (rs0, cs1, out7, over8, t35, t36, t37)))
noncomputable def law18_Want_L4 (rs0 : List Int) (cs1 : List Int) (out7 : List Int) (over8 : List Int) (t35 : List (List Int × Int × Int × Int)) (t36 : Int) (t37 : Int) : Tr (Lap (List Int × List Int × List Int × List Int × (List (List Int × Int × Int × Int)) × Int × Int) (List Int)) :=
 .br (decide (t37 < t36)) (
  .bnd (idx t35 t37) fun x_5 =>
  .bnd (idx ([x_5]) 0) fun x_6 =>
  .bnd (loopW (fun s => (law18_Want_L9 s.1 s.2.1 s.2.2.1 s.2.2.2.1 s.2.2.2.2.1 s.2.2.2.2.2.1 s.2.2.2.2.2.2.1 s.2.2.2.2.2.2.2.1 s.2.2.2.2.2.2.2.2.1 s.2.2.2.2.2.2.2.2.2.1 s.2.2.2.2.2.2.2.2.2.2.1 s.2.2.2.2.2.2.2.2.2.2.2.1 s.2.2.2.2.2.2.2.2.2.2.2.2).run) (rs0, cs1, out7, over8, x_5, [], [], t35, t36, t37, x_6.1, (x_6.1.length : Int), 0)) fun l_12 =>
  .bnd (idx ([l_12.2.2.2.2.1]) 0) fun x_13 =>
  .bnd (ref14_Weak_F l_12.2.2.2.2.2.1 (IntKind.i64.wrap x_13.2.2.1)) fun c_14 =>
  .bnd (loopW (fun s => (law18_Want_L17 s.1 s.2.1 s.2.2.1 s.2.2.2.1 s.2.2.2.2.1 s.2.2.2.2.2.1 s.2.2.2.2.2.2.1 s.2.2.2.2.2.2.2.1 s.2.2.2.2.2.2.2.2.1 s.2.2.2.2.2.2.2.2.2.1 s.2.2.2.2.2.2.2.2.2.2.1 s.2.2.2.2.2.2.2.2.2.2.2.1 s.2.2.2.2.2.2.2.2.2.2.2.2.1 s.2.2.2.2.2.2.2.2.2.2.2.2.2).run) (l_12.1, l_12.2.1, l_12.2.2.1, l_12.2.2.2.1, l_12.2.2.2.2.1, l_12.2.2.2.2.2.1, l_12.2.2.2.2.2.2.1, c_14, [], l_12.2.2.2.2.2.2.2.1, l_12.2.2.2.2.2.2.2.2.1, l_12.2.2.2.2.2.2.2.2.2, (c_14.length : Int), 0)) fun l_17 =>
  .bnd (idx ([l_17.2.2.2.2.1]) 0) fun x_18 =>
  .bnd (idx ([l_17.2.2.2.2.1]) 0) fun x_19 =>
  .bnd (law15_Want_F l_17.2.2.2.2.2.2.1 l_17.2.2.2.2.2.2.2.2.1) fun c_20 =>
  .bnd (ref14_Brackets_F c_20 l_17.2.2.2.2.2.1 l_17.2.2.2.2.2.2.2.1 x_18.2.1 (IntKind.i64.wrap x_19.2.2.1)) fun c_21 =>
  .bnd (idx ([l_17.2.2.2.2.1]) 0) fun x_22 =>
  .bnd (idx ([l_17.2.2.2.2.1]) 0) fun x_23 =>
  .bnd (idx ([l_17.2.2.2.2.1]) 0) fun x_24 =>
  .bnd (ref14_Rest_F c_21 x_22.2.1 (IntKind.i64.wrap x_23.2.2.1) (IntKind.i64.wrap x_24.2.2.2)) fun c_25 =>
  .bnd (idx ([l_17.2.2.2.2.1]) 0) fun x_26 =>
  .bnd (loopW (fun s => (law18_Want_L24 s.1 s.2.1 s.2.2.1 s.2.2.2.1 s.2.2.2.2.1 s.2.2.2.2.2.1 s.2.2.2.2.2.2.1 s.2.2.2.2.2.2.2.1 s.2.2.2.2.2.2.2.2.1 s.2.2.2.2.2.2.2.2.2.1 s.2.2.2.2.2.2.2.2.2.2.1 s.2.2.2.2.2.2.2.2.2.2.2).run) (l_17.1, l_17.2.1, l_17.2.2.1, l_17.2.2.2.1, l_17.2.2.2.2.1, c_25, l_17.2.2.2.2.2.2.2.2.2.1, l_17.2.2.2.2.2.2.2.2.2.2.1, l_17.2.2.2.2.2.2.2.2.2.2.2, x_26.1, (x_26.1.length : Int), 0)) fun l_33 =>
  .pure (.next (l_33.1, l_33.2.1, l_33.2.2.1, l_33.2.2.2.1, l_33.2.2.2.2.1, l_33.2.2.2.2.2.1, IntKind.i64.wrap (l_33.2.2.2.2.2.2 + 1)))) (
  .pure (.done out7))
noncomputable def law18_Want_T (rs0 : List Int) (cs1 : List Int) (level2 : Int) : Tr (List Int) :=
 .bnd (law10_Ints_F cs1) fun c_1 =>
 .bnd (ref10_Resolve_F c_1 level2) fun c_2 =>
 .bnd (app 17592186044416 [] c_2.1) fun r_3 =>
 .bnd (seqs_Of_F r_3 cs1 level2) fun c_4 =>
 .bnd (loopW (fun s => (law18_Want_L4 s.1 s.2.1 s.2.2.1 s.2.2.2.1 s.2.2.2.2.1 s.2.2.2.2.2.1 s.2.2.2.2.2.2).run) (rs0, cs1, c_2.1, c_2.2, c_4, (c_4.length : Int), 0)) fun l_34 =>
 .pure l_34
noncomputable def law18_Want_F (rs0 : List Int) (cs1 : List Int) (level2 : Int) : Option (List Int) := (law18_Want_T rs0 cs1 level2).run
def law18_Want_L : List (Nat × LoopAnn) := [(9, { head := [.sv 0 false Tg, .sv 1 false Tf, .srow 7 1000007 3 true Th, .srow 8 1000008 3 true Th, .sbox 11 1000011 56 true Ta, .srow 12 1000012 3 true Th, .srow 13 1000013 21 true Tj, .srow 35 1000035 56 true Ta, .sv 36 true Th, .sv 37 true Th, .sv 42 true Te, .sv 43 true Th, .sv 44 true Th], xid := 2, out := [.sv 0 false Tg, .sv 1 false Tf, .srow 7 1000007 3 true Th, .srow 8 1000008 3 true Th, .sbox 11 1000011 56 true Ta, .srow 12 1000012 3 true Th, .srow 13 1000013 21 true Tj, .srow 35 1000035 56 true Ta, .sv 36 true Th, .sv 37 true Th], hasRet := false, res := [] }), (17, { head := [.sv 0 false Tg, .sv 1 false Tf, .srow 7 1000007 3 true Th, .srow 8 1000008 3 true Th, .sbox 11 1000011 56 true Ta, .srow 12 1000012 3 true Th, .srow 13 1000013 21 true Tj, .srow 16 1000016 3 true Th, .srow 17 1000017 41 true Ti, .srow 35 1000035 56 true Ta, .sv 36 true Th, .sv 37 true Th, .sref 68 16 1000016, .sv 69 true Th, .sv 70 true Th], xid := 4, out := [.sv 0 false Tg, .sv 1 false Tf, .srow 7 1000007 3 true Th, .srow 8 1000008 3 true Th, .sbox 11 1000011 56 true Ta, .srow 12 1000012 3 true Th, .srow 13 1000013 21 true Tj, .srow 16 1000016 3 true Th, .srow 17 1000017 41 true Ti, .srow 35 1000035 56 true Ta, .sv 36 true Th, .sv 37 true Th], hasRet := false, res := [] }), (24, { head := [.sv 0 false Tg, .sv 1 false Tf, .srow 7 1000007 3 true Th, .srow 8 1000008 3 true Th, .sbox 11 1000011 56 true Ta, .srow 20 1000020 3 true Th, .srow 35 1000035 56 true Ta, .sv 36 true Th, .sv 37 true Th, .sv 102 true Te, .sv 103 true Th, .sv 104 true Th], xid := 6, out := [.sv 0 false Tg, .sv 1 false Tf, .srow 7 1000007 3 true Th, .srow 8 1000008 3 true Th, .srow 35 1000035 56 true Ta, .sv 36 true Th, .sv 37 true Th], hasRet := false, res := [] }), (4, { head := [.sv 0 false Tg, .sv 1 false Tf, .srow 7 1000007 3 true Th, .srow 8 1000008 3 true Th, .srow 35 1000035 56 true Ta, .sv 36 true Th, .sv 37 true Th], xid := 0, out := [.srow 7 1000007 3 true Th], hasRet := false, res := [] })]
noncomputable def law18_Want_C : List (Nat × Callee) := [(16, .plain law10_Ints_fun), (21, .plain ref10_Resolve_fun), (18, .plain seqs_Of_fun), (22, .plain ref14_Weak_fun), (24, .plain law15_Want_fun), (23, .plain ref14_Brackets_fun), (25, .plain ref14_Rest_fun), (26, .plain ref14_Implicit_fun)]
noncomputable def law18_Want_fun : Fun := ⟨[.sl Tj, .sl Ti, Th], [.row 3 Th], fun x => law18_Want_F x.1 x.2.1 x.2.2.1⟩
theorem law18_Want_ev (x : Tys.I [.sl Tj, .sl Ti, Th]) : evFun G0 (of_ law18_Want_C) ⟨[], [(21, [0, 1, 3, 4, 5, 6, 7, 8, 9, 2, 10, 11])], [], [], [], []⟩ (ol_ law18_Want_L) Tryz.f9 [.sl Tj, .sl Ti, Th] [.row 3 Th] x = law18_Want_T x.1 x.2.1 x.2.2.1 := by kernel_rfl
theorem law18_Want_ok : FunOk Tryz.prog 9 law18_Want_fun := evFun_ok mixed ctx0 (pc law10_Ints_ok (pc ref10_Resolve_ok (pc seqs_Of_ok (pc ref14_Weak_ok (pc law15_Want_ok (pc ref14_Brackets_ok (pc ref14_Rest_ok (pc ref14_Implicit_ok (no_calls))))))))) Tryz.func9 (by kernel_rfl) _ (fun x => congrArg Tr.run (law18_Want_ev x)) (by kernel_rfl) (by kernel_rfl)
noncomputable def api_Place_F (x : Option (Int × ByteArray × Int)) : Option (ByteArray × Int) := some (match x with | none => (ByteArray.empty, 0) | some y => (y.2.1, y.2.2))
noncomputable def api_Place_fun : Fun := ⟨[.err 116 40], [.v .str, .v Th], fun x => api_Place_F x.1⟩
theorem api_Place_ok : FunOk Tryz.prog 29 api_Place_fun := place_ok
noncomputable def api_Number_F (x : Option (Int × ByteArray × Int)) : Option Int := some (match x with | none => 0 | some y => y.1)
noncomputable def api_Number_fun : Fun := ⟨[.err 116 40], [.v Th], fun x => api_Number_F x.1⟩
theorem api_Number_ok : FunOk Tryz.prog 30 api_Number_fun := number_ok
noncomputable def law02_Told_T (e0 : Option (Int × ByteArray × Int)) (want1 : Int) (where2 : ByteArray) (at3 : Int) : Tr Bool :=
 .br (want1 == 0) (
  .pure e0.isNone) (
  .bnd (api_Place_F e0) fun c_1 =>
  .bnd (api_Number_F e0) fun c_2 =>
  .br (c_2 == want1) (
   .br (c_1.1.toList == where2.toList) (
    .pure (c_1.2 == at3)) (
    .pure false)) (
   .pure false))
noncomputable def law02_Told_F (e0 : Option (Int × ByteArray × Int)) (want1 : Int) (where2 : ByteArray) (at3 : Int) : Option Bool := (law02_Told_T e0 want1 where2 at3).run
def law02_Told_L : List (Nat × LoopAnn) := []
noncomputable def law02_Told_C : List (Nat × Callee) := [(29, .plain api_Place_fun), (30, .plain api_Number_fun)]
noncomputable def law02_Told_fun : Fun := ⟨[.err 116 40, Th, .str, Th], [.v .bool], fun x => law02_Told_F x.1 x.2.1 x.2.2.1 x.2.2.2.1⟩
theorem law02_Told_ev (x : Tys.I [.err 116 40, Th, .str, Th]) : evFun G0 (of_ law02_Told_C) A0 (ol_ law02_Told_L) Tryz.f11 [.err 116 40, Th, .str, Th] [.v .bool] x = law02_Told_T x.1 x.2.1 x.2.2.1 x.2.2.2.1 := by kernel_rfl
theorem law02_Told_ok : FunOk Tryz.prog 11 law02_Told_fun := evFun_ok mixed ctx0 (pc api_Place_ok (pc api_Number_ok (no_calls))) Tryz.func11 (by kernel_rfl) _ (fun x => congrArg Tr.run (law02_Told_ev x)) (by kernel_rfl) (by kernel_rfl)
noncomputable def ref04_Find_L2 (t0 : List (List Int)) (r1 : Int) (other2 : Int) (k7 : Int) : Tr (Lap (List (List Int) × Int × Int × Int) (Sum Int Int)) :=
 .br (decide (k7 < (t0.length : Int))) (
  .bnd (idx t0 k7) fun x_1 =>
  .bnd (idx x_1 0) fun x_2 =>
  .br (decide (x_2 ≤ r1)) (
   .bnd (idx t0 k7) fun x_3 =>
   .bnd (idx x_3 1) fun x_4 =>
   .br (decide (r1 ≤ x_4)) (
    .bnd (idx t0 k7) fun x_5 =>
    .bnd (idx x_5 2) fun x_6 =>
    .pure (.done (.inr x_6))) (
    .pure (.next (t0, r1, other2, IntKind.i64.wrap (k7 + 1))))) (
   .pure (.next (t0, r1, other2, IntKind.i64.wrap (k7 + 1))))) (
  .pure (.done (.inl other2)))
noncomputable def ref04_Find_T (t0 : List (List Int)) (r1 : Int) (other2 : Int) : Tr Int :=
 .alt (loopW (fun s => (ref04_Find_L2 s.1 s.2.1 s.2.2.1 s.2.2.2).run) (t0, r1, other2, 0)) (fun l_7 =>
  .pure l_7) (fun l_8 =>
  .pure l_8)
noncomputable def ref04_Find_F (t0 : List (List Int)) (r1 : Int) (other2 : Int) : Option Int := (ref04_Find_T t0 r1 other2).run
def ref04_Find_L : List (Nat × LoopAnn) := [(2, { head := [.sv 0 false (.sl (.arr 3 Th)), .sv 1 false Th, .sv 2 false Th, .sv 7 true Th], xid := 0, out := [.sv 2 false Th], hasRet := true, res := [.sv 6 false Th] })]
noncomputable def ref04_Find_C : List (Nat × Callee) := []
noncomputable def ref04_Find_fun : Fun := ⟨[.sl (.arr 3 Th), Th, Th], [.v Th], fun x => ref04_Find_F x.1 x.2.1 x.2.2.1⟩
theorem ref04_Find_ev (x : Tys.I [.sl (.arr 3 Th), Th, Th]) : evFun G0 (of_ ref04_Find_C) A0 (ol_ ref04_Find_L) Tryz.f12 [.sl (.arr 3 Th), Th, Th] [.v Th] x = ref04_Find_T x.1 x.2.1 x.2.2.1 := by kernel_rfl
theorem ref04_Find_ok : FunOk Tryz.prog 12 ref04_Find_fun := evFun_ok mixed ctx0 (no_calls) Tryz.func12 (by kernel_rfl) _ (fun x => congrArg Tr.run (ref04_Find_ev x)) (by kernel_rfl) (by kernel_rfl)
noncomputable def ref04_Bidi_T : Tr (List (List Int)) :=
 .pure ([[0, 8, 9], [9, 9, 11], [10, 10, 10], [11, 11, 11], [12, 12, 12], [13, 13, 10], [14, 27, 9], [28, 30, 10], [31, 31, 11], [32, 32, 12], [33, 34, 13], [35, 37, 5], [38, 42, 13], [43, 43, 4], [44, 44, 7], [45, 45, 4], [46, 47, 7], [48, 57, 3], [58, 58, 7], [59, 64, 13], [91, 96, 13], [123, 126, 13], [127, 132, 9], [133, 133, 10], [134, 159, 9], [160, 160, 7], [161, 161, 13], [162, 165, 5], [166, 169, 13], [171, 172, 13], [173, 173, 9], [174, 175, 13], [176, 177, 5], [178, 179, 3], [180, 180, 13], [182, 184, 13], [185, 185, 3], [187, 191, 13], [215, 215, 13], [247, 247, 13], [768, 879, 8], [1155, 1161, 8], [1424, 1424, 1], [1425, 1469, 8], [1470, 1470, 1], [1471, 1471, 8], [1472, 1472, 1], [1473, 1474, 8], [1475, 1475, 1], [1476, 1477, 8], [1478, 1478, 1], [1479, 1479, 8], [1480, 1535, 1], [1536, 1541, 6], [1542, 1543, 13], [1544, 1544, 2], [1545, 1546, 5], [1547, 1547, 2], [1548, 1548, 7], [1549, 1549, 2], [1550, 1551, 13], [1552, 1562, 8], [1563, 1610, 2], [1611, 1631, 8], [1632, 1641, 6], [1642, 1642, 5], [1643, 1644, 6], [1645, 1647, 2], [1648, 1648, 8], [1649, 1749, 2], [1750, 1756, 8], [1757, 1757, 6], [1758, 1758, 13], [1759, 1764, 8], [1765, 1766, 2], [1767, 1768, 8], [1769, 1769, 13], [1770, 1773, 8], [1774, 1775, 2], [1776, 1785, 3], [1786, 1808, 2], [1809, 1809, 8], [1810, 1839, 2], [1840, 1866, 8], [1867, 1957, 2], [1958, 1968, 8], [1969, 1983, 2], [1984, 2026, 1], [2027, 2035, 8], [2036, 2037, 1], [2038, 2041, 13], [2042, 2143, 1], [2144, 2249, 2], [2250, 2273, 8], [2274, 2274, 6], [2275, 2306, 8], [2364, 2364, 8], [2369, 2376, 8], [2381, 2381, 8], [3633, 3633, 8], [3636, 3642, 8], [3647, 3647, 5], [3655, 3662, 8], [8192, 8202, 12], [8203, 8205, 9], [8207, 8207, 1], [8208, 8231, 13], [8232, 8232, 12], [8233, 8233, 10], [8234, 8234, 14], [8235, 8235, 16], [8236, 8236, 18], [8237, 8237, 15], [8238, 8238, 17], [8239, 8239, 7], [8240, 8244, 5], [8245, 8259, 13], [8260, 8260, 7], [8261, 8286, 13], [8287, 8287, 12], [8288, 8293, 9], [8294, 8294, 19], [8295, 8295, 20], [8296, 8296, 21], [8297, 8297, 22], [8298, 8303, 9], [8304, 8304, 3], [8308, 8313, 3], [8314, 8315, 4], [8316, 8318, 13], [8320, 8329, 3], [8330, 8331, 4], [8332, 8334, 13], [8352, 8399, 5], [8400, 8432, 8], [8592, 8721, 13], [8722, 8722, 4], [8723, 8723, 5], [8724, 9013, 13], [9083, 9108, 13], [9312, 9351, 13], [9352, 9371, 3], [9472, 10239, 13], [10496, 11263, 13], [12288, 12288, 12], [12289, 12292, 13], [12296, 12320, 13], [12330, 12333, 8], [12336, 12336, 13], [64285, 64285, 1], [64286, 64286, 8], [64287, 64296, 1], [64297, 64297, 4], [64298, 64335, 1], [64336, 64975, 2], [64976, 65007, 9], [65008, 65023, 2], [65024, 65039, 8], [65056, 65071, 8], [65104, 65104, 7], [65106, 65106, 7], [65109, 65109, 7], [65113, 65118, 13], [65136, 65278, 2], [65279, 65279, 9], [65281, 65282, 13], [65283, 65285, 5], [65286, 65290, 13], [65291, 65291, 4], [65292, 65292, 7], [65293, 65293, 4], [65294, 65295, 7], [65296, 65305, 3], [65306, 65306, 7], [65307, 65312, 13], [65339, 65344, 13], [65371, 65381, 13], [67584, 69631, 1], [120782, 120831, 3], [124928, 125135, 1], [125136, 125142, 8], [125143, 126063, 1], [126064, 126719, 2], [126720, 126975, 1], [127744, 129791, 13], [917504, 917759, 9], [917760, 917999, 8], [918000, 921599, 9]])
noncomputable def ref04_Bidi_F : Option (List (List Int)) := (ref04_Bidi_T).run
def ref04_Bidi_L : List (Nat × LoopAnn) := []
noncomputable def ref04_Bidi_C : List (Nat × Callee) := []
noncomputable def ref04_Bidi_fun : Fun := ⟨[], [.row 73 (.arr 3 Th)], fun _ => ref04_Bidi_F⟩
theorem ref04_Bidi_ev (x : Tys.I []) : evFun G0 (of_ ref04_Bidi_C) A0 (ol_ ref04_Bidi_L) Tryz.f13 [] [.row 73 (.arr 3 Th)] x = ref04_Bidi_T := by kernel_rfl
theorem ref04_Bidi_ok : FunOk Tryz.prog 13 ref04_Bidi_fun := evFun_ok mixed ctx0 (no_calls) Tryz.func13 (by kernel_rfl) _ (fun x => congrArg Tr.run (ref04_Bidi_ev x)) (by kernel_rfl) (by kernel_rfl)
noncomputable def law18_LevelsText_L8 (rs0 : List Int) (d1 : Int) (t5 : List Int × List Int × (List (Int × Int × Int)) × List Int) (e6 : Option (Int × ByteArray × Int)) (cs7 : List Int) (t45 : List Int) (t46 : Int) (t47 : Int) : Tr (Lap (List Int × Int × (List Int × List Int × (List (Int × Int × Int)) × List Int) × (Option (Int × ByteArray × Int)) × List Int × List Int × Int × Int) (List Int × Int × (List Int × List Int × (List (Int × Int × Int)) × List Int) × (Option (Int × ByteArray × Int)) × List Int)) :=
 .br (decide (t47 < t46)) (
  .bnd (idx t45 t47) fun x_9 =>
  .bnd ref04_Bidi_F fun c_10 =>
  .bnd (ref04_Find_F c_10 (IntKind.i64.wrap x_9) 0) fun c_11 =>
  .bnd (app 140737488355328 cs7 ([IntKind.u8.wrap c_11])) fun r_12 =>
  .pure (.next (rs0, d1, t5, e6, r_12, t45, t46, IntKind.i64.wrap (t47 + 1)))) (
  .pure (.done (rs0, d1, t5, e6, cs7)))
noncomputable def law18_LevelsText_L16 (rs0 : List Int) (d1 : Int) (t5 : List Int × List Int × (List (Int × Int × Int)) × List Int) (cs7 : List Int) (t97 : List (Int × Int × Int)) (t98 : Int) (t99 : Int) : Tr (Lap (List Int × Int × (List Int × List Int × (List (Int × Int × Int)) × List Int) × List Int × (List (Int × Int × Int)) × Int × Int) (Sum ((List Int × List Int × (List (Int × Int × Int)) × List Int) × List Int) Bool)) :=
 .br (decide (t99 < t98)) (
  .bnd (idx t97 t99) fun x_19 =>
  .bnd (idx ([t5]) 0) fun x_20 =>
  .bnd (idx x_20.2.2.1 t99) fun x_21 =>
  .bnd (idx ([x_19]) 0) fun x_22 =>
  .br (!((x_21.1 == x_22.1) && ((x_21.2.1 == x_22.2.1) && (x_21.2.2 == x_22.2.2)))) (
   .pure (.done (.inr false))) (
   .bnd (idx ([x_19]) 0) fun x_23 =>
   .bnd (idx ([x_19]) 0) fun x_24 =>
   .bnd (cut cs7 x_23.1 x_24.2.1) fun r_25 =>
   .br (d1 == 0) (
    .bnd (law10_Ints_F r_25) fun c_26 =>
    .bnd (ref10_First_F c_26 false 0) fun c_27 =>
    .bnd (idx ([t5]) 0) fun x_28 =>
    .bnd (idx x_28.2.2.2 t99) fun x_29 =>
    .br (x_29 != c_27) (
     .pure (.done (.inr false))) (
     .bnd (idx ([t5]) 0) fun x_30 =>
     .bnd (idx ([x_19]) 0) fun x_31 =>
     .bnd (idx ([x_19]) 0) fun x_32 =>
     .bnd (cut x_30.2.1 x_31.1 x_32.2.1) fun r_33 =>
     .bnd (idx ([x_19]) 0) fun x_34 =>
     .bnd (idx ([x_19]) 0) fun x_35 =>
     .bnd (cut rs0 x_34.1 x_35.2.1) fun r_36 =>
     .bnd (law18_Want_F r_36 r_25 c_27) fun c_37 =>
     .bnd (law18_same_F r_33 c_37) fun c_38 =>
     .br (!c_38) (
      .pure (.done (.inr false))) (
      .pure (.next (rs0, d1, t5, cs7, t97, t98, IntKind.i64.wrap (t99 + 1)))))) (
    .bnd (idx ([t5]) 0) fun x_39 =>
    .bnd (idx x_39.2.2.2 t99) fun x_40 =>
    .br (x_40 != (IntKind.i64.wrap (d1 - 1))) (
     .pure (.done (.inr false))) (
     .bnd (idx ([t5]) 0) fun x_41 =>
     .bnd (idx ([x_19]) 0) fun x_42 =>
     .bnd (idx ([x_19]) 0) fun x_43 =>
     .bnd (cut x_41.2.1 x_42.1 x_43.2.1) fun r_44 =>
     .bnd (idx ([x_19]) 0) fun x_45 =>
     .bnd (idx ([x_19]) 0) fun x_46 =>
     .bnd (cut rs0 x_45.1 x_46.2.1) fun r_47 =>
     .bnd (law18_Want_F r_47 r_25 (IntKind.i64.wrap (d1 - 1))) fun c_48 =>
     .bnd (law18_same_F r_44 c_48) fun c_49 =>
     .br (!c_49) (
      .pure (.done (.inr false))) (
      .pure (.next (rs0, d1, t5, cs7, t97, t98, IntKind.i64.wrap (t99 + 1)))))))) (
  .pure (.done (.inl (t5, cs7))))
noncomputable def law18_LevelsText_L28 (t5 : List Int × List Int × (List (Int × Int × Int)) × List Int) (cs7 : List Int) (k15 : Int) : Tr (Lap ((List Int × List Int × (List (Int × Int × Int)) × List Int) × List Int × Int) (Sum Unit Bool)) :=
 .br (decide (k15 < (cs7.length : Int))) (
  .bnd (idx ([t5]) 0) fun x_51 =>
  .bnd (idx x_51.1 k15) fun x_52 =>
  .bnd (idx cs7 k15) fun x_53 =>
  .br (x_52 != x_53) (
   .pure (.done (.inr false))) (
   .pure (.next (t5, cs7, IntKind.i64.wrap (k15 + 1))))) (
  .pure (.done (.inl ())))
noncomputable def law18_LevelsText_T (rs0 : List Int) (d1 : Int) : Tr Bool :=
 .bnd law18_awake_F fun c_1 =>
 .br (!c_1) (
  .pure false) (
  .bnd (levels_Of_F rs0 d1) fun c_2 =>
  .br (decide (d1 < 0)) (
   .bnd (idx ([c_2.1]) 0) fun x_3 =>
   .br ((x_3.2.1.length : Int) == 0) (
    .bnd (idx ([c_2.1]) 0) fun x_4 =>
    .br ((x_4.1.length : Int) == 0) (
     .bnd (law02_Told_F c_2.2 3 (ByteArray.mk #[100, 105, 114, 101, 99, 116, 105, 111, 110]) d1) fun c_5 =>
     .pure c_5) (
     .pure false)) (
    .pure false)) (
   .br (decide (d1 > 2)) (
    .bnd (idx ([c_2.1]) 0) fun x_6 =>
    .br ((x_6.2.1.length : Int) == 0) (
     .bnd (idx ([c_2.1]) 0) fun x_7 =>
     .br ((x_7.1.length : Int) == 0) (
      .bnd (law02_Told_F c_2.2 3 (ByteArray.mk #[100, 105, 114, 101, 99, 116, 105, 111, 110]) d1) fun c_8 =>
      .pure c_8) (
      .pure false)) (
     .pure false)) (
    .bnd (loopW (fun s => (law18_LevelsText_L8 s.1 s.2.1 s.2.2.1 s.2.2.2.1 s.2.2.2.2.1 s.2.2.2.2.2.1 s.2.2.2.2.2.2.1 s.2.2.2.2.2.2.2).run) (rs0, d1, c_2.1, c_2.2, [], rs0, (rs0.length : Int), 0)) fun l_13 =>
    .bnd (para_Split_F l_13.1 l_13.2.2.2.2) fun c_14 =>
    .br l_13.2.2.2.1.isSome (
     .pure false) (
     .bnd (idx ([l_13.2.2.1]) 0) fun x_15 =>
     .br ((x_15.1.length : Int) != (l_13.2.2.2.2.length : Int)) (
      .pure false) (
      .bnd (idx ([l_13.2.2.1]) 0) fun x_16 =>
      .br ((x_16.2.2.1.length : Int) != (c_14.length : Int)) (
       .pure false) (
       .bnd (idx ([l_13.2.2.1]) 0) fun x_17 =>
       .br ((x_17.2.2.2.length : Int) != (c_14.length : Int)) (
        .pure false) (
        .bnd (idx ([l_13.2.2.1]) 0) fun x_18 =>
        .br ((x_18.2.1.length : Int) != (l_13.2.2.2.2.length : Int)) (
         .pure false) (
         .alt (loopW (fun s => (law18_LevelsText_L16 s.1 s.2.1 s.2.2.1 s.2.2.2.1 s.2.2.2.2.1 s.2.2.2.2.2.1 s.2.2.2.2.2.2).run) (l_13.1, l_13.2.1, l_13.2.2.1, l_13.2.2.2.2, c_14, (c_14.length : Int), 0)) (fun l_50 =>
          .alt (loopW (fun s => (law18_LevelsText_L28 s.1 s.2.1 s.2.2).run) (l_50.1, l_50.2, 0)) (fun l_54 =>
           .pure true) (fun l_55 =>
           .pure l_55)) (fun l_56 =>
          .pure l_56)))))))))
noncomputable def law18_LevelsText_F (rs0 : List Int) (d1 : Int) : Option Bool := (law18_LevelsText_T rs0 d1).run
def law18_LevelsText_L : List (Nat × LoopAnn) := [(8, { head := [.sv 0 false Tg, .sv 1 false Th, .sbox 5 1000005 33 true (.st (.pair Tf (.pair Te (.pair (.sl Tc) Te)))), .sv 6 true (.err 116 40), .srow 7 1000007 41 true Ti, .sv 45 false Tg, .sv 46 true Th, .sv 47 true Th], xid := 0, out := [.sv 0 false Tg, .sv 1 false Th, .sbox 5 1000005 33 true (.st (.pair Tf (.pair Te (.pair (.sl Tc) Te)))), .sv 6 true (.err 116 40), .srow 7 1000007 41 true Ti], hasRet := false, res := [] }), (16, { head := [.sv 0 false Tg, .sv 1 false Th, .sbox 5 1000005 33 true (.st (.pair Tf (.pair Te (.pair (.sl Tc) Te)))), .srow 7 1000007 41 true Ti, .srow 97 1000097 47 true Tc, .sv 98 true Th, .sv 99 true Th], xid := 2, out := [.sbox 5 1000005 33 true (.st (.pair Tf (.pair Te (.pair (.sl Tc) Te)))), .srow 7 1000007 41 true Ti], hasRet := true, res := [.sv 4 true .bool] }), (28, { head := [.sbox 5 1000005 33 true (.st (.pair Tf (.pair Te (.pair (.sl Tc) Te)))), .srow 7 1000007 41 true Ti, .sv 15 true Th], xid := 4, out := [], hasRet := true, res := [.sv 4 true .bool] })]
noncomputable def law18_LevelsText_C : List (Nat × Callee) := [(5, .plain law18_awake_fun), (10, .plain levels_Of_fun), (11, .plain law02_Told_fun), (13, .plain ref04_Bidi_fun), (12, .plain ref04_Find_fun), (14, .plain para_Split_fun), (16, .plain law10_Ints_fun), (15, .plain ref10_First_fun), (9, .plain law18_Want_fun), (8, .plain law18_same_fun)]
noncomputable def law18_LevelsText_fun : Fun := ⟨[.sl Tj, Th], [.v .bool], fun x => law18_LevelsText_F x.1 x.2.1⟩
theorem law18_LevelsText_ev (x : Tys.I [.sl Tj, Th]) : evFun G0 (of_ law18_LevelsText_C) A0 (ol_ law18_LevelsText_L) Tryz.f4 [.sl Tj, Th] [.v .bool] x = law18_LevelsText_T x.1 x.2.1 := by kernel_rfl
theorem law18_LevelsText_ok : FunOk Tryz.prog 4 law18_LevelsText_fun := evFun_ok mixed ctx0 (pc law18_awake_ok (pc levels_Of_ok (pc law02_Told_ok (pc ref04_Bidi_ok (pc ref04_Find_ok (pc para_Split_ok (pc law10_Ints_ok (pc ref10_First_ok (pc law18_Want_ok (pc law18_same_ok (no_calls))))))))))) Tryz.func4 (by kernel_rfl) _ (fun x => congrArg Tr.run (law18_LevelsText_ev x)) (by kernel_rfl) (by kernel_rfl)
end Go.Proofs.YtenbhmjcoljddaaGreatDoor
