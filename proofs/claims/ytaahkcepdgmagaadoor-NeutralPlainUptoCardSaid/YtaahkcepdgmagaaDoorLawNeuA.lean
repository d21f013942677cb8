/-
  The laws of neutral classes return true.
-/
import Derived.Test.YtaahkcepdgmagaaDoorLawNeuR
namespace Go.Proofs.YtaahkcepdgmagaaDoor
set_option linter.all false

/-! ### the document's examples -/
theorem find_1 : pairs_find_F [(1, 40)] 40 = some 0 := by
  unfold pairs_find_F pairs_find_T
  refine Post.run (Post.altR (c := 0) (loopW_done (f := fun s : List (Int × Int) × Int × Int => (pairs_find_L2 s.1 s.2.1 s.2.2).run) ?_) (Post.pure rfl))
  dsimp only
  unfold pairs_find_L2
  exact Post.run (Post.brT (by rfl) (Post.bnd (b := (1, 40)) (by rfl) (Post.brT (by rfl) (Post.pure rfl))))
theorem closings_1 : pairs_closings_F [1488, 40, 1489, 41] [1, 13, 1, 13] = some [0, 3, 0, 0] := by
  unfold pairs_closings_F pairs_closings_T
  have h40 : mirror_Bracket_F 40 = some (1, 40) := by rw [brack_F]; exact congrArg some (by decide +kernel)
  have h41 : mirror_Bracket_F 41 = some (2, 40) := by rw [brack_F]; exact congrArg some (by decide +kernel)
  refine Post.run (Post.bnd (b := [0, 0, 0, 0]) (by rfl) (Post.altL (b := [0, 3, 0, 0]) (loopW_next (s' := ([1488, 40, 1489, 41], [1, 13, 1, 13], [0, 0, 0, 0], [], 4, 1)) ?_ (loopW_next (s' := ([1488, 40, 1489, 41], [1, 13, 1, 13], [0, 0, 0, 0], [(1, 40)], 4, 2)) ?_ (loopW_next (s' := ([1488, 40, 1489, 41], [1, 13, 1, 13], [0, 0, 0, 0], [(1, 40)], 4, 3)) ?_ (loopW_next (s' := ([1488, 40, 1489, 41], [1, 13, 1, 13], [0, 3, 0, 0], [], 4, 4)) ?_ (loopW_done ?_))))) (Post.pure rfl)))
  all_goals (dsimp only; unfold pairs_closings_L5)
  · exact Post.run (Post.brT (by rfl) (Post.bnd (b := 1) (by rfl) (Post.brT (by rfl) (Post.pure (by rfl)))))
  · exact Post.run (Post.brT (by rfl) (Post.bnd (b := 13) (by rfl) (Post.brF (by rfl) (Post.bnd (b := 40) (by rfl) (Post.bnd h40 (Post.brT (by rfl) (Post.brF (by rfl) (Post.bnd (b := [(1, 40)]) (by rfl) (Post.pure (by rfl))))))))))
  · exact Post.run (Post.brT (by rfl) (Post.bnd (b := 1) (by rfl) (Post.brT (by rfl) (Post.pure (by rfl)))))
  · exact Post.run (Post.brT (by rfl) (Post.bnd (b := 13) (by rfl) (Post.brF (by rfl) (Post.bnd (b := 41) (by rfl) (Post.bnd h41 (Post.brF (by rfl) (Post.brT (by rfl) (Post.bnd find_1 (Post.brT (by rfl) (Post.bnd (b := (1, 40)) (by rfl) (Post.bnd (b := 0) (by rfl) (Post.bnd (b := []) (by rfl) (Post.pure (by rfl))))))))))))))
  · exact Post.run (Post.brF (by rfl) (Post.pure (by rfl)))
theorem of_1 : pairs_Of_F [1488, 40, 1489, 41] [1, 13, 1, 13] = some [(1, 3)] := by
  unfold pairs_Of_F pairs_Of_T
  refine Post.run (Post.bnd closings_1 (Post.bnd (loopW_next (s' := ([], [0, 3, 0, 0], 4, 1)) ?_ (loopW_next (s' := ([(1, 3)], [0, 3, 0, 0], 4, 2)) ?_ (loopW_next (s' := ([(1, 3)], [0, 3, 0, 0], 4, 3)) ?_ (loopW_next (s' := ([(1, 3)], [0, 3, 0, 0], 4, 4)) ?_ (loopW_done (r := [(1, 3)]) ?_))))) (Post.pure rfl)))
  all_goals (dsimp only; unfold pairs_Of_L4)
  · exact Post.run (Post.brT (by rfl) (Post.bnd (b := 0) (by rfl) (Post.brF (by rfl) (Post.pure (by rfl)))))
  · exact Post.run (Post.brT (by rfl) (Post.bnd (b := 3) (by rfl) (Post.brT (by rfl) (Post.bnd (b := [(1, 3)]) (by rfl) (Post.pure (by rfl))))))
  · exact Post.run (Post.brT (by rfl) (Post.bnd (b := 0) (by rfl) (Post.brF (by rfl) (Post.pure (by rfl)))))
  · exact Post.run (Post.brT (by rfl) (Post.bnd (b := 0) (by rfl) (Post.brF (by rfl) (Post.pure (by rfl)))))
  · exact Post.run (Post.brF (by rfl) (Post.pure (by rfl)))
theorem inside_1 : neutral_inside_F [1] 0 = some 1 := by
  unfold neutral_inside_F neutral_inside_T
  refine Post.run (Post.altL (b := 1) (loopW_next (s' := (0, 1, [1], 1, 1)) ?_ (loopW_done ?_)) (Post.pure rfl))
  all_goals (dsimp only; unfold neutral_inside_L3)
  · exact Post.run (Post.brT (by rfl) (Post.bnd (b := 1) (by rfl) (Post.bnd (dir_F 1) (Post.brF (by rfl) (Post.brT (by rfl) (Post.pure (by rfl)))))))
  · exact Post.run (Post.brF (by rfl) (Post.pure (by rfl)))
theorem before_1 : neutral_before_F [1] 0 = some 1 := by
  unfold neutral_before_F neutral_before_T
  refine Post.run (Post.altR (c := 1) (loopW_done ?_) (Post.pure rfl))
  dsimp only
  unfold neutral_before_L2
  exact Post.run (Post.brT (by rfl) (Post.bnd (b := 1) (by rfl) (Post.bnd (dir_F 1) (Post.brT (by rfl) (Post.pure (by rfl))))))
theorem turn_1 : neutral_turn_F [1, 13, 1, 13] [1, 13, 1, 13] 1 1 = some ([1, 1, 1, 13], ()) := by
  unfold neutral_turn_F neutral_turn_T
  refine Post.run (Post.bnd (b := 13) (by rfl) (Post.bnd (b := 13) (by rfl) (Post.bnd (b := [1, 1, 1, 13]) (loopW_done ?_) (Post.pure rfl))))
  dsimp only
  unfold neutral_turn_L2
  exact Post.run (Post.brT (by rfl) (Post.bnd (b := 1) (by rfl) (Post.brF (by rfl) (Post.pure (by rfl)))))
theorem turn_3 : neutral_turn_F [1, 1, 1, 13] [1, 13, 1, 13] 3 1 = some ([1, 1, 1, 1], ()) := by
  unfold neutral_turn_F neutral_turn_T
  refine Post.run (Post.bnd (b := 13) (by rfl) (Post.bnd (b := 13) (by rfl) (Post.bnd (b := [1, 1, 1, 1]) (loopW_done ?_) (Post.pure rfl))))
  dsimp only
  unfold neutral_turn_L2
  exact Post.run (Post.brF (by rfl) (Post.pure (by rfl)))
theorem brackets_1 : neutral_Brackets_F [1488, 40, 1489, 41] [1, 13, 1, 13] [1, 13, 1, 13] 0 0 = some [1, 1, 1, 1] := by
  unfold neutral_Brackets_F neutral_Brackets_T
  refine Post.run (Post.bnd (clone_F [1, 13, 1, 13] (by simp)) (Post.brF (by rfl) (Post.brF (by rfl) (Post.bnd of_1 (Post.bnd (b := [1, 1, 1, 1]) (loopW_next (s' := ([1, 13, 1, 13], 0, 0, [1, 1, 1, 1], [(1, 3)], 1, 1)) ?_ (loopW_done ?_)) (Post.pure rfl))))))
  all_goals (dsimp only; unfold neutral_Brackets_L5)
  · refine Post.run (Post.brT (by rfl) (Post.bnd (b := (1, 3)) (by rfl) (post_box (post_box ?_))))
    refine Post.bnd (b := [1]) (by rfl) (Post.bnd (level_F 0) (Post.bnd inside_1 (Post.brF (by rfl) (Post.bnd (level_F 0) (Post.brT (by rfl) ?_)))))
    refine post_box (Post.bnd (b := [1]) (by rfl) (Post.bnd before_1 (post_box ?_)))
    exact Post.bnd turn_1 (post_box (Post.bnd turn_3 (Post.pure (by rfl))))
  · exact Post.run (Post.brF (by rfl) (Post.pure (by rfl)))
theorem awake16 : law16_awake_F = some true := by
  unfold law16_awake_F law16_awake_T
  have r1 := rest_F [0, 13, 1, 13, 1] 0 0 0 (by simp)
  have r2 := rest_F [13, 3] 0 1 1 (by simp)
  have e1 : tab ([0, 13, 1, 13, 1] : List Int).length (rest (fn [0, 13, 1, 13, 1]) 0 0 (emb 0) ([0, 13, 1, 13, 1] : List Int).length) = [0, 0, 1, 1, 1] := by decide +kernel
  have e2 : tab ([13, 3] : List Int).length (rest (fn [13, 3]) 1 1 (emb 0) ([13, 3] : List Int).length) = [1, 3] := by decide +kernel
  rw [e1] at r1
  rw [e2] at r2
  refine Post.run (Post.bnd brackets_1 (Post.bnd r1 (Post.bnd r2 ?_)))
  exact Post.brT (by rfl) (Post.bnd (b := 1) (by rfl) (Post.brT (by rfl) (Post.bnd (b := 1) (by rfl) (Post.brT (by rfl) (Post.brT (by rfl) (Post.bnd (b := 0) (by rfl) (Post.brT (by rfl) (Post.bnd (b := 1) (by rfl) (Post.brT (by rfl) (Post.brT (by rfl) (Post.bnd (b := 1) (by rfl) (Post.brT (by rfl) (Post.bnd (b := 3) (by rfl) (Post.brT (by rfl) (Post.bnd (level_F 3) (Post.pure (by rfl)))))))))))))))))

/-! ### classes, sides -/
theorem classes_F (ns : List Int) (hn : ns.length ≤ 2097152) (h8 : ∀ n ∈ ns, 0 ≤ n ∧ n ≤ 255) : law08_Classes_F ns = some (tab ns.length fun i => ns.getD i 0 % 23) := by
  unfold law08_Classes_F law08_Classes_T
  refine Post.run (Post.bnd (count (L := fun s : List Int × List Int × Int => law08_Classes_L3 s.1 s.2.1 s.2.2) ns.length (fun k => (ns, tab k fun i => ns.getD i 0 % 23, (k : Int))) rfl (fun k hk => ?_) ?_) (Post.pure rfl))
  · have hm : 0 ≤ ns.getD k 0 ∧ ns.getD k 0 ≤ 255 := by
      refine h8 _ ?_
      simp [List.getD, hk]
    dsimp only
    unfold law08_Classes_L3
    refine Post.brT (by rw [decide_eq_true_eq]; omega) (Post.idx 0 k rfl hk (Post.bnd (app_eq (by rw [tab_len]; simp; omega)) (Post.pure ?_)))
    rw [Int.tmod_eq_emod_of_nonneg hm.1, wrap_succ (by omega), ← tab_succ]
  · dsimp only
    unfold law08_Classes_L3
    exact Post.brF (by simp) (Post.pure rfl)
def Cls (cs : List Int) : Prop := ∀ k, 0 ≤ cs.getD k 0 ∧ cs.getD k 0 ≤ 22
theorem classes_ok (ns : List Int) : Cls (tab ns.length fun i => ns.getD i 0 % 23) := by
  intro k
  by_cases h : k < ns.length
  · rw [tab_getD _ _ h]
    omega
  · rw [getD_len (by rw [tab_len]; omega)]
    omega
theorem side14_F (b : Bool) : law14_Side_F b = some (if b = true then 1 else 0) := by cases b <;> rfl
theorem ints_F (cs : List Int) (hn : cs.length ≤ 4194304) (hc : Cls cs) : law10_Ints_F cs = some cs := by
  unfold law10_Ints_F law10_Ints_T
  refine Post.run (Post.bnd (count (L := fun s : List Int × List Int × Int × Int => law10_Ints_L3 s.1 s.2.1 s.2.2.1 s.2.2.2) cs.length (fun k => (tab k (fn cs), cs, (cs.length : Int), (k : Int))) (r := cs) rfl (fun k hk => ?_) ?_) (Post.pure rfl))
  · dsimp only
    unfold law10_Ints_L3
    have := hc k
    refine Post.brT (by rw [decide_eq_true_eq]; omega) (Post.idx 0 k rfl hk (Post.bnd (app_eq (by rw [tab_len]; simp; omega)) (Post.pure ?_)))
    rw [wrap_succ (by omega), wrap64 (by omega) (by omega), ← tab_succ]
  · dsimp only
    unfold law10_Ints_L3
    exact Post.brF (by simp) (Post.pure (by rw [← tab_self]))
theorem like_F (a : List Int) (hn : a.length ≤ 4194304) (hc : Cls a) : law14_Like_F a a = some true := by
  unfold law14_Like_F law14_Like_T
  refine Post.run (Post.brF (by simp) (Post.altL (b := ()) (count (L := fun s : List Int × List Int × Int => law14_Like_L4 s.1 s.2.1 s.2.2) a.length (fun k => (a, a, (k : Int))) rfl (fun k hk => ?_) ?_) (Post.pure rfl)))
  · dsimp only
    unfold law14_Like_L4
    have := hc k
    refine Post.brT (by rw [decide_eq_true_eq]; omega) (Post.idx 0 k rfl hk (Post.idx 0 k rfl hk (Post.brF ?_ (Post.pure (by rw [wrap_succ (by omega)])))))
    rw [wrap64 (by omega) (by omega)]
    simp
  · dsimp only
    unfold law14_Like_L4
    exact Post.brF (by simp) (Post.pure rfl)

/-! ### what the answer may be -/

end Go.Proofs.YtaahkcepdgmagaaDoor
