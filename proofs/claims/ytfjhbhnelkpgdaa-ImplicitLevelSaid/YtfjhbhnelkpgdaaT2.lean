/-
  The laws of the implicit rules return true.
-/
import Derived.Test.YtfjhbhnelkpgdaaSh
import Derived.Test.YtfjhbhnelkpgdaaEvMath
namespace Go.Proofs.Ytfjhbhnelkpgdaa

theorem level_F {c l : Int} (hl : 0 ≤ l ∧ l ≤ 100000) : implicit_Level_F c l = some (if l % 2 = 0 then l + (if c = 1 then 1 else if c = 6 then 2 else if c = 3 then 2 else 0) else l + (if c = 0 then 1 else if c = 6 then 1 else if c = 3 then 1 else 0)) := by
  have hm : l.tmod 2 = l % 2 := Int.tmod_eq_emod_of_nonneg hl.1
  unfold implicit_Level_F implicit_Level_T implicit_aboveEven_F implicit_aboveEven_T implicit_aboveOdd_F implicit_aboveOdd_T
  simp only [Tr.run_br, Tr.run_bnd, Tr.run_pure, hm, beq_iff_eq]
  repeat' split
  all_goals first | contradiction | (simp only [Option.bind_some, Tr.run_pure]; rw [wrap64 (by omega) (by omega)])

theorem awake17 : law17_awake_F = some true := by kernel_rfl

theorem implicitLevel_true (c l : Int) (hc : 0 ≤ c ∧ c ≤ 255) (hl : 0 ≤ l ∧ l ≤ 65535) : law17_ImplicitLevel_F c l = some true := by
  have hm : l.tmod 2 = l % 2 := Int.tmod_eq_emod_of_nonneg hl.1
  unfold law17_ImplicitLevel_F law17_ImplicitLevel_T
  simp only [Tr.run_br, Tr.run_bnd, Tr.run_pure, awake17, Option.bind_some, wrap64 (n := l) (by omega) (by omega), wrap64 (n := c) (by omega) (by omega), level_F (c := c) (l := l) (by omega), ref14_Implicit_F, ref14_Implicit_T, hm, beq_iff_eq]
  simp only [Bool.not_true, Bool.false_eq_true, if_false]
  have w : ∀ k, 0 ≤ k → k ≤ 2 → IntKind.i64.wrap (l + k) = l + k := fun k h1 h2 => wrap64 (by omega) (by omega)
  simp only [w 1 (by omega) (by omega), w 2 (by omega) (by omega)]
  repeat' split
  all_goals first | contradiction | (simp; omega) | (simp; done) | omega

theorem implicitLevel_all (x : Tys.I [.int .u8, .int .u16]) (h : WfAll [.int .u8, .int .u16] x) : law17_ImplicitLevel_F x.1 x.2.1 = some true :=
  implicitLevel_true _ _ (wf_u8 h.1) (wf_u16 h.2.1)
namespace implicitLevel
open Go.ChangeShapes Go.WideShapes Go.ChangeAt Go.RowKit
theorem own : ownKnob Try.prog.godebug = none := by kernel_rfl
theorem laidOut : laidOutB Try.prog = true := by kernel_rfl
theorem contract (H : Type) (enc : TypeId × Value → H) (W : World) (base : Nat) (args : Array Value) (ds gs : List (DataW H)) (before : List MemPlace)
    (hval : ∀ (j : Nat) t v, Try.f6.params[j]? = some t → args[j]? = some v → Value.okWide Try.prog W .any base t v)
    (hW : DataW.Whole enc Try.prog Try.f6.params.toList Rows.implicitLevelSpec.vars false W args.toList ds gs before) :
    Calls Try.prog 6 args W fun e W' => ∃ v, e = .returned v ∧ Rows.implicitLevelSpec.post enc Try.prog Try.f6 false true false false W args v W' :=
  law_contract ctx0 laidOut law17_ImplicitLevel_ok (s := Rows.implicitLevelSpec) rfl (by kernel_rfl) (by kernel_rfl) (tb := 4) (by kernel_rfl) Try.underlying4 (fun ds h => match ds, h with | [_, _], _ => rfl) (N := Rows.uptoBulkAll (ds ++ gs)) (fun x hw _ => implicitLevel_all x hw) hval hW (Nat.le_refl _)
set_option maxRecDepth 100000 in
theorem lifted (os : Os) (started : os.Started) (H : Type) (enc : TypeId × Value → H) :
    ReturnsInHanded {} Try.checked os 6 .any (Rows.implicitLevelSpec.pre6 enc Try.prog Try.f6 Rows.implicitLevelRow.domain false) (Rows.implicitLevelSpec.post enc Try.prog Try.f6 false true false false) := by
  refine returnsInHanded_of_change (C := Try.checked) own started (by kernel_rfl) Try.func6
    (ChangeSpec.witness6 (enc := enc) (C := Try.checked) false ⟨#[], #[.int .u8 0, .int .u16 0], []⟩ 8 (by kernel_rfl) (by kernel_rfl) (by kernel_rfl) (by kernel_rfl)) ?_
  intro W base args ds gs before hval hW _ _
  exact contract H enc W base args ds gs before hval hW
theorem over : Rows.implicitLevelRow.holds Try.pinned (OpenSpec.ofChange Rows.implicitLevelSpec) :=
  OpenClaim.holds_of_wide 6 Try.f6 rfl rfl rfl rfl rfl rfl rfl ⟨rfl, rfl, rfl, rfl, rfl⟩ rfl rfl rfl rfl rfl (by kernel_rfl) Try.func6 (by kernel_rfl)
    (of_decide_eq_true (by kernel_rfl)) (by unfold Func.isWrapper; first | (rw [if_pos (by decide +kernel)]; kernel_rfl) | (rw [if_neg (by decide +kernel)]; exact ⟨rfl, rfl⟩))
    (fun os started H enc _ => lifted os started H enc)
theorem proved : Rows.ImplicitLevelSaid := over
end implicitLevel
end Go.Proofs.Ytfjhbhnelkpgdaa
