/-
  The laws of the implicit rules return true.
-/
import Derived.Test.YtfjhbhnelkpgdaaSh
import Derived.Test.YtfjhbhnelkpgdaaEvMath
namespace Go.Proofs.Ytfjhbhnelkpgdaa

theorem level_F {c l : Int} (hl : 0 ≤ l ∧ l ≤ 100000) : implicit_Level_F c l = some (if l % 2 = 0 then l + (if c = 1 then 1 else if c = 6 then 2 else if c = 3 then 2 else 0) else l + (if c = 0 then 1 else if c = 6 then 1 else if c = 3 then 1 else 0)) := by
  have hm : l.tmod 2 = l % 2 := Int.tmod_eq_emod_of_nonneg hl.1
  unfold implicit_Level_F implicit_Level_T implicit_aboveEven_F implicit_aboveEven_T implicit_aboveOdd_F implicit_aboveOdd_T
  simp only [Tr.run_br, Tr.run_bnd, Tr.run_pure, hm, beq_iff_eq]
  repeat' split
  all_goals first | contradiction | (simp only [Option.bind_some, Tr.run_pure]; rw [wrap64 (by omega) (by omega)])

theorem awake17 : law17_awake_F = some true := by kernel_rfl

theorem implicitLevel_true (c l : Int) (hc : 0 ≤ c ∧ c ≤ 255) (hl : 0 ≤ l ∧ l ≤ 65535) : law17_ImplicitLevel_F c l = some true := by
  have hm : l.tmod 2 = l % 2 := Int.tmod_eq_emod_of_nonneg hl.1
  unfold law17_ImplicitLevel_F law17_ImplicitLevel_T
  simp only [Tr.run_br, Tr.run_bnd, Tr.run_pure, awake17, Option.bind_some, wrap64 (n := l) (by omega) (by omega), wrap64 (n := c) (by omega) (by omega), level_F (c := c) (l := l) (by omega), ref14_Implicit_F, ref14_Implicit_T, hm, beq_iff_eq]
  simp only [Bool.not_true, Bool.false_eq_true, if_false]
  have w : ∀ k, 0 ≤ k → k ≤ 2 → IntKind.i64.wrap (l + k) = l + k := fun k h1 h2 => wrap64 (by omega) (by omega)
  simp only [w 1 (by omega) (by omega), w 2 (by omega) (by omega)]
  repeat' split
  all_goals first | contradiction | (simp; omega) | (simp; done) | omega

theorem implicitSides_true (c l : Int) (hc : 0 ≤ c ∧ c ≤ 255) (hl : 0 ≤ l ∧ l ≤ 65535) : law17_ImplicitSides_F c l = some true := by
  unfold law17_ImplicitSides_F law17_ImplicitSides_T
  have hw := loopW_count (f := fun s : Int × Int × List Int × Int × Int => (law17_ImplicitSides_L5 s.1 s.2.1 s.2.2.1 s.2.2.2.1 s.2.2.2.2).run) 3
    (fun k => (c, l, [0, 3, 6], (([0, 3, 6] : List Int).length : Int), (k : Int))) (r := .inl (c, l)) ?_ ?_
  · rw [show ((0 : Nat) : Int) = 0 from rfl] at hw
    rw [Tr.run_bnd_some awake17, Tr.run_br, if_neg (by simp), wrap64 (n := l) (by omega) (by omega), Tr.run_alt_inl hw, Tr.run_bnd_some (level_F (by dsimp only; omega)), Tr.run_bnd_some (level_F (by dsimp only; omega))]
    dsimp only
    have ht : ∀ k : Int, 0 ≤ k → k.tmod 2 = k % 2 := fun k hk => Int.tmod_eq_emod_of_nonneg hk
    simp only [Tr.run_br, Tr.run_pure]
    rw [if_pos, if_pos]
    · congr 1
      rw [wrap64 (by omega) (by omega)]
      simp only [decide_eq_true_eq]
      split <;> split <;> (try split) <;> (try split) <;> omega
    · simp only [decide_eq_true_eq]
      split <;> split <;> (try split) <;> (try split) <;> omega
    · simp only [beq_iff_eq]
      rw [ht _ (by split <;> simp <;> omega)]
      split <;> simp <;> omega
  · intro k hk
    have ht : ∀ k : Int, 0 ≤ k → k.tmod 2 = k % 2 := fun k hk => Int.tmod_eq_emod_of_nonneg hk
    dsimp only
    unfold law17_ImplicitSides_L5
    rw [Tr.run_br, if_pos (by simp; omega), Tr.run_bnd_some (idx_get rfl (by simpa using hk)), Tr.run_bnd_some (level_F (by omega)), Tr.run_br, if_neg, Tr.run_pure, wrap64 (by omega) (by omega)]
    · rfl
    · match k, hk with
      | 0, _ => simp; rw [ht _ (by split <;> omega)]; split <;> omega
      | 1, _ => simp; rw [ht _ (by split <;> omega)]; split <;> omega
      | 2, _ => simp; rw [ht _ (by split <;> omega)]; split <;> omega
  · dsimp only
    unfold law17_ImplicitSides_L5
    rw [Tr.run_br, if_neg (by simp), Tr.run_pure]

theorem implicitTwo_true (c l : Int) (hc : 0 ≤ c ∧ c ≤ 255) (hl : 0 ≤ l ∧ l ≤ 65535) : law17_ImplicitTwo_F c l = some true := by
  unfold law17_ImplicitTwo_F law17_ImplicitTwo_T
  rw [Tr.run_bnd_some awake17, Tr.run_br, if_neg (by simp)]
  simp only [wrap64 (n := l) (by omega) (by omega), wrap64 (n := l + 2) (by omega) (by omega), Tr.run_br, Tr.run_bnd, Tr.run_pure, level_F (c := c) (l := l) (by omega), level_F (c := c) (l := l + 2) (by omega), Option.bind_some, beq_iff_eq, decide_eq_true_eq, Bool.not_eq_true']
  have e : (l + 2) % 2 = l % 2 := by omega
  rw [e]
  repeat' split
  all_goals first | (rw [wrap64 (by omega) (by omega)] at *; omega) | (rw [wrap64 (by omega) (by omega)] at *; simp; omega) | (simp; omega) | simp_all

theorem implicitLevel_all (x : Tys.I [.int .u8, .int .u16]) (h : WfAll [.int .u8, .int .u16] x) : law17_ImplicitLevel_F x.1 x.2.1 = some true :=
  implicitLevel_true _ _ (wf_u8 h.1) (wf_u16 h.2.1)
theorem implicitSides_all (x : Tys.I [.int .u8, .int .u16]) (h : WfAll [.int .u8, .int .u16] x) : law17_ImplicitSides_F x.1 x.2.1 = some true :=
  implicitSides_true _ _ (wf_u8 h.1) (wf_u16 h.2.1)
theorem implicitTwo_all (x : Tys.I [.int .u8, .int .u16]) (h : WfAll [.int .u8, .int .u16] x) : law17_ImplicitTwo_F x.1 x.2.1 = some true :=
  implicitTwo_true _ _ (wf_u8 h.1) (wf_u16 h.2.1)

end Go.Proofs.Ytfjhbhnelkpgdaa
