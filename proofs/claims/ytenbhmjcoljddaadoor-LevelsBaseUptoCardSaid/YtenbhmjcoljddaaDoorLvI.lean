/-
  Parts of elder texts, cut out for the levels.
-/
import Derived.Test.YtenbhmjcoljddaaDoorSh
import Derived.Test.YtenbhmjcoljddaaDoorEvMath
namespace Go.Proofs.YtenbhmjcoljddaaDoor.Im
set_option linter.all false
theorem level_F {c l : Int} (hl : 0 ≤ l ∧ l ≤ 100000) : implicit_Level_F c l = some (if l % 2 = 0 then l + (if c = 1 then 1 else if c = 6 then 2 else if c = 3 then 2 else 0) else l + (if c = 0 then 1 else if c = 6 then 1 else if c = 3 then 1 else 0)) := by
  have hm : l.tmod 2 = l % 2 := Int.tmod_eq_emod_of_nonneg hl.1
  unfold implicit_Level_F implicit_Level_T implicit_aboveEven_F implicit_aboveEven_T implicit_aboveOdd_F implicit_aboveOdd_T
  simp only [Tr.run_br, Tr.run_bnd, Tr.run_pure, hm, beq_iff_eq]
  repeat' split
  all_goals first | contradiction | (simp only [Option.bind_some, Tr.run_pure]; rw [wrap64 (by omega) (by omega)])

end Go.Proofs.YtenbhmjcoljddaaDoor.Im
