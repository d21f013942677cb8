/-
  The laws of neutral classes return true.
-/
import Derived.Test.YtaahkcepdgmagaaDoorLawNeu
namespace Go.Proofs.YtaahkcepdgmagaaDoor
set_option linter.all false

/-! ### the document's examples -/
theorem find_1 : pairs_find_F [(1, 40)] 40 = some 0 := by
  unfold pairs_find_F pairs_find_T
  refine Post.run (Post.altR (c := 0) (loopW_done (f := fun s : List (Int × Int) × Int × Int => (pairs_find_L2 s.1 s.2.1 s.2.2).run) ?_) (Post.pure rfl))
  dsimp only
  unfold pairs_find_L2
  exact Post.run (Post.brT (by rfl) (Post.bnd (b := (1, 40)) (by rfl) (Post.brT (by rfl) (Post.pure rfl))))
theorem closings_1 : pairs_closings_F [1488, 40, 1489, 41] [1, 13, 1, 13] = some [0, 3, 0, 0] := by
  unfold pairs_closings_F pairs_closings_T
  have h40 : mirror_Bracket_F 40 = some (1, 40) := by rw [brack_F]; exact congrArg some (by decide +kernel)
  have h41 : mirror_Bracket_F 41 = some (2, 40) := by rw [brack_F]; exact congrArg some (by decide +kernel)
  refine Post.run (Post.bnd (b := [0, 0, 0, 0]) (by rfl) (Post.altL (b := [0, 3, 0, 0]) (loopW_next (s' := ([1488, 40, 1489, 41], [1, 13, 1, 13], [0, 0, 0, 0], [], 4, 1)) ?_ (loopW_next (s' := ([1488, 40, 1489, 41], [1, 13, 1, 13], [0, 0, 0, 0], [(1, 40)], 4, 2)) ?_ (loopW_next (s' := ([1488, 40, 1489, 41], [1, 13, 1, 13], [0, 0, 0, 0], [(1, 40)], 4, 3)) ?_ (loopW_next (s' := ([1488, 40, 1489, 41], [1, 13, 1, 13], [0, 3, 0, 0], [], 4, 4)) ?_ (loopW_done ?_))))) (Post.pure rfl)))
  all_goals (dsimp only; unfold pairs_closings_L5)
  · exact Post.run (Post.brT (by rfl) (Post.bnd (b := 1) (by rfl) (Post.brT (by rfl) (Post.pure (by rfl)))))
  · exact Post.run (Post.brT (by rfl) (Post.bnd (b := 13) (by rfl) (Post.brF (by rfl) (Post.bnd (b := 40) (by rfl) (Post.bnd h40 (Post.brT (by rfl) (Post.brF (by rfl) (Post.bnd (b := [(1, 40)]) (by rfl) (Post.pure (by rfl))))))))))
  · exact Post.run (Post.brT (by rfl) (Post.bnd (b := 1) (by rfl) (Post.brT (by rfl) (Post.pure (by rfl)))))
  · exact Post.run (Post.brT (by rfl) (Post.bnd (b := 13) (by rfl) (Post.brF (by rfl) (Post.bnd (b := 41) (by rfl) (Post.bnd h41 (Post.brF (by rfl) (Post.brT (by rfl) (Post.bnd find_1 (Post.brT (by rfl) (Post.bnd (b := (1, 40)) (by rfl) (Post.bnd (b := 0) (by rfl) (Post.bnd (b := []) (by rfl) (Post.pure (by rfl))))))))))))))
  · exact Post.run (Post.brF (by rfl) (Post.pure (by rfl)))
theorem of_1 : pairs_Of_F [1488, 40, 1489, 41] [1, 13, 1, 13] = some [(1, 3)] := by
  unfold pairs_Of_F pairs_Of_T
  refine Post.run (Post.bnd closings_1 (Post.bnd (loopW_next (s' := ([], [0, 3, 0, 0], 4, 1)) ?_ (loopW_next (s' := ([(1, 3)], [0, 3, 0, 0], 4, 2)) ?_ (loopW_next (s' := ([(1, 3)], [0, 3, 0, 0], 4, 3)) ?_ (loopW_next (s' := ([(1, 3)], [0, 3, 0, 0], 4, 4)) ?_ (loopW_done (r := [(1, 3)]) ?_))))) (Post.pure rfl)))
  all_goals (dsimp only; unfold pairs_Of_L4)
  · exact Post.run (Post.brT (by rfl) (Post.bnd (b := 0) (by rfl) (Post.brF (by rfl) (Post.pure (by rfl)))))
  · exact Post.run (Post.brT (by rfl) (Post.bnd (b := 3) (by rfl) (Post.brT (by rfl) (Post.bnd (b := [(1, 3)]) (by rfl) (Post.pure (by rfl))))))
  · exact Post.run (Post.brT (by rfl) (Post.bnd (b := 0) (by rfl) (Post.brF (by rfl) (Post.pure (by rfl)))))
  · exact Post.run (Post.brT (by rfl) (Post.bnd (b := 0) (by rfl) (Post.brF (by rfl) (Post.pure (by rfl)))))
  · exact Post.run (Post.brF (by rfl) (Post.pure (by rfl)))
theorem inside_1 : neutral_inside_F [1] 0 = some 1 := by
  unfold neutral_inside_F neutral_inside_T
  refine Post.run (Post.altL (b := 1) (loopW_next (s' := (0, 1, [1], 1, 1)) ?_ (loopW_done ?_)) (Post.pure rfl))
  all_goals (dsimp only; unfold neutral_inside_L3)
  · exact Post.run (Post.brT (by rfl) (Post.bnd (b := 1) (by rfl) (Post.bnd (dir_F 1) (Post.brF (by rfl) (Post.brT (by rfl) (Post.pure (by rfl)))))))
  · exact Post.run (Post.brF (by rfl) (Post.pure (by rfl)))
theorem before_1 : neutral_before_F [1] 0 = some 1 := by
  unfold neutral_before_F neutral_before_T
  refine Post.run (Post.altR (c := 1) (loopW_done ?_) (Post.pure rfl))
  dsimp only
  unfold neutral_before_L2
  exact Post.run (Post.brT (by rfl) (Post.bnd (b := 1) (by rfl) (Post.bnd (dir_F 1) (Post.brT (by rfl) (Post.pure (by rfl))))))
theorem turn_1 : neutral_turn_F [1, 13, 1, 13] [1, 13, 1, 13] 1 1 = some ([1, 1, 1, 13], ()) := by
  unfold neutral_turn_F neutral_turn_T
  refine Post.run (Post.bnd (b := 13) (by rfl) (Post.bnd (b := 13) (by rfl) (Post.bnd (b := [1, 1, 1, 13]) (loopW_done ?_) (Post.pure rfl))))
  dsimp only
  unfold neutral_turn_L2
  exact Post.run (Post.brT (by rfl) (Post.bnd (b := 1) (by rfl) (Post.brF (by rfl) (Post.pure (by rfl)))))
theorem turn_3 : neutral_turn_F [1, 1, 1, 13] [1, 13, 1, 13] 3 1 = some ([1, 1, 1, 1], ()) := by
  unfold neutral_turn_F neutral_turn_T
  refine Post.run (Post.bnd (b := 13) (by rfl) (Post.bnd (b := 13) (by rfl) (Post.bnd (b := [1, 1, 1, 1]) (loopW_done ?_) (Post.pure rfl))))
  dsimp only
  unfold neutral_turn_L2
  exact Post.run (Post.brF (by rfl) (Post.pure (by rfl)))
theorem brackets_1 : neutral_Brackets_F [1488, 40, 1489, 41] [1, 13, 1, 13] [1, 13, 1, 13] 0 0 = some [1, 1, 1, 1] := by
  unfold neutral_Brackets_F neutral_Brackets_T
  refine Post.run (Post.bnd (clone_F [1, 13, 1, 13] (by simp)) (Post.brF (by rfl) (Post.brF (by rfl) (Post.bnd of_1 (Post.bnd (b := [1, 1, 1, 1]) (loopW_next (s' := ([1, 13, 1, 13], 0, 0, [1, 1, 1, 1], [(1, 3)], 1, 1)) ?_ (loopW_done ?_)) (Post.pure rfl))))))
  all_goals (dsimp only; unfold neutral_Brackets_L5)
  · refine Post.run (Post.brT (by rfl) (Post.bnd (b := (1, 3)) (by rfl) (post_box (post_box ?_))))
    refine Post.bnd (b := [1]) (by rfl) (Post.bnd (level_F 0) (Post.bnd inside_1 (Post.brF (by rfl) (Post.bnd (level_F 0) (Post.brT (by rfl) ?_)))))
    refine post_box (Post.bnd (b := [1]) (by rfl) (Post.bnd before_1 (post_box ?_)))
    exact Post.bnd turn_1 (post_box (Post.bnd turn_3 (Post.pure (by rfl))))
  · exact Post.run (Post.brF (by rfl) (Post.pure (by rfl)))
theorem awake16 : law16_awake_F = some true := by
  unfold law16_awake_F law16_awake_T
  have r1 := rest_F [0, 13, 1, 13, 1] 0 0 0 (by simp)
  have r2 := rest_F [13, 3] 0 1 1 (by simp)
  have e1 : tab ([0, 13, 1, 13, 1] : List Int).length (rest (fn [0, 13, 1, 13, 1]) 0 0 (emb 0) ([0, 13, 1, 13, 1] : List Int).length) = [0, 0, 1, 1, 1] := by decide +kernel
  have e2 : tab ([13, 3] : List Int).length (rest (fn [13, 3]) 1 1 (emb 0) ([13, 3] : List Int).length) = [1, 3] := by decide +kernel
  rw [e1] at r1
  rw [e2] at r2
  refine Post.run (Post.bnd brackets_1 (Post.bnd r1 (Post.bnd r2 ?_)))
  exact Post.brT (by rfl) (Post.bnd (b := 1) (by rfl) (Post.brT (by rfl) (Post.bnd (b := 1) (by rfl) (Post.brT (by rfl) (Post.brT (by rfl) (Post.bnd (b := 0) (by rfl) (Post.brT (by rfl) (Post.bnd (b := 1) (by rfl) (Post.brT (by rfl) (Post.brT (by rfl) (Post.bnd (b := 1) (by rfl) (Post.brT (by rfl) (Post.bnd (b := 3) (by rfl) (Post.brT (by rfl) (Post.bnd (level_F 3) (Post.pure (by rfl)))))))))))))))))

/-! ### classes, sides -/
theorem classes_F (ns : List Int) (hn : ns.length ≤ 2097152) (h8 : ∀ n ∈ ns, 0 ≤ n ∧ n ≤ 255) : law08_Classes_F ns = some (tab ns.length fun i => ns.getD i 0 % 23) := by
  unfold law08_Classes_F law08_Classes_T
  refine Post.run (Post.bnd (count (L := fun s : List Int × List Int × Int => law08_Classes_L3 s.1 s.2.1 s.2.2) ns.length (fun k => (ns, tab k fun i => ns.getD i 0 % 23, (k : Int))) rfl (fun k hk => ?_) ?_) (Post.pure rfl))
  · have hm : 0 ≤ ns.getD k 0 ∧ ns.getD k 0 ≤ 255 := by
      refine h8 _ ?_
      simp [List.getD, hk]
    dsimp only
    unfold law08_Classes_L3
    refine Post.brT (by rw [decide_eq_true_eq]; omega) (Post.idx 0 k rfl hk (Post.bnd (app_eq (by rw [tab_len]; simp; omega)) (Post.pure ?_)))
    rw [Int.tmod_eq_emod_of_nonneg hm.1, wrap_succ (by omega), ← tab_succ]
  · dsimp only
    unfold law08_Classes_L3
    exact Post.brF (by simp) (Post.pure rfl)
def Cls (cs : List Int) : Prop := ∀ k, 0 ≤ cs.getD k 0 ∧ cs.getD k 0 ≤ 22
theorem classes_ok (ns : List Int) : Cls (tab ns.length fun i => ns.getD i 0 % 23) := by
  intro k
  by_cases h : k < ns.length
  · rw [tab_getD _ _ h]
    omega
  · rw [getD_len (by rw [tab_len]; omega)]
    omega
theorem side14_F (b : Bool) : law14_Side_F b = some (if b = true then 1 else 0) := by cases b <;> rfl
theorem ints_F (cs : List Int) (hn : cs.length ≤ 4194304) (hc : Cls cs) : law10_Ints_F cs = some cs := by
  unfold law10_Ints_F law10_Ints_T
  refine Post.run (Post.bnd (count (L := fun s : List Int × List Int × Int × Int => law10_Ints_L3 s.1 s.2.1 s.2.2.1 s.2.2.2) cs.length (fun k => (tab k (fn cs), cs, (cs.length : Int), (k : Int))) (r := cs) rfl (fun k hk => ?_) ?_) (Post.pure rfl))
  · dsimp only
    unfold law10_Ints_L3
    have := hc k
    refine Post.brT (by rw [decide_eq_true_eq]; omega) (Post.idx 0 k rfl hk (Post.bnd (app_eq (by rw [tab_len]; simp; omega)) (Post.pure ?_)))
    rw [wrap_succ (by omega), wrap64 (by omega) (by omega), ← tab_succ]
  · dsimp only
    unfold law10_Ints_L3
    exact Post.brF (by simp) (Post.pure (by rw [← tab_self]))
theorem like_F (a : List Int) (hn : a.length ≤ 4194304) (hc : Cls a) : law14_Like_F a a = some true := by
  unfold law14_Like_F law14_Like_T
  refine Post.run (Post.brF (by simp) (Post.altL (b := ()) (count (L := fun s : List Int × List Int × Int => law14_Like_L4 s.1 s.2.1 s.2.2) a.length (fun k => (a, a, (k : Int))) rfl (fun k hk => ?_) ?_) (Post.pure rfl)))
  · dsimp only
    unfold law14_Like_L4
    have := hc k
    refine Post.brT (by rw [decide_eq_true_eq]; omega) (Post.idx 0 k rfl hk (Post.idx 0 k rfl hk (Post.brF ?_ (Post.pure (by rw [wrap_succ (by omega)])))))
    rw [wrap64 (by omega) (by omega)]
    simp
  · dsimp only
    unfold law14_Like_L4
    exact Post.brF (by simp) (Post.pure rfl)

/-! ### what the answer may be -/
theorem pd_side (f : Nat → Int) {sos : Int} (h : sos = 0 ∨ sos = 1) : ∀ k, pd f sos k = 0 ∨ pd f sos k = 1
  | 0 => h
  | k + 1 => by
    unfold pd
    have := dir_cases (f k)
    split
    · exact pd_side f h k
    · omega
theorem emb_side (l : Int) : emb l = 0 ∨ emb l = 1 := by
  unfold emb
  split
  · exact .inr rfl
  · exact .inl rfl
theorem rest_cases (f : Nat → Int) {sos : Int} (eos l : Int) (n k : Nat) (h : sos = 0 ∨ sos = 1) : (rest f sos eos (emb l) n k = f k ∧ (f k = 0 ∨ f k = 1 ∨ f k = 2 ∨ f k = 3 ∨ f k = 6)) ∨ ((rest f sos eos (emb l) n k = 0 ∨ rest f sos eos (emb l) n k = 1) ∧ f k ≠ 0 ∧ f k ≠ 1 ∧ f k ≠ 2 ∧ f k ≠ 3 ∧ f k ≠ 6) := by
  have hd := dir_cases (f k)
  by_cases e : dir (f k) = 13
  · refine .inr ⟨?_, by omega⟩
    unfold rest
    rw [if_pos e]
    split
    · exact pd_side f h k
    · exact emb_side l
  · refine .inl ⟨if_neg e, by omega⟩
theorem side_of (b : Bool) : (if b = true then (1 : Int) else 0) = 0 ∨ (if b = true then (1 : Int) else 0) = 1 := by cases b <;> simp
theorem level_of {l : Int} (h : 0 ≤ l ∧ l ≤ 255) : IntKind.i64.wrap (l.tmod 126) = l % 126 := by
  rw [Int.tmod_eq_emod_of_nonneg h.1, wrap64 (by omega) (by omega)]

theorem neutralRest_true (ns : List Int) (level : Int) (a b : Bool) (hn : ns.length ≤ 2097152) (h8 : ∀ n ∈ ns, 0 ≤ n ∧ n ≤ 255) (hl : 0 ≤ level ∧ level ≤ 255) : law16_NeutralRest_F ns level a b = some true := by
  unfold law16_NeutralRest_F law16_NeutralRest_T
  have hc := classes_F ns hn h8
  have hlen : (tab ns.length fun i => ns.getD i 0 % 23).length = ns.length := tab_len _ _
  have hcl := classes_ok ns
  generalize (tab ns.length fun i => ns.getD i 0 % 23) = cs at *
  rw [level_of hl]
  have hw : ∀ c : Bool, IntKind.i64.wrap (if c = true then 1 else 0) = if c = true then 1 else 0 := fun c => by cases c <;> rfl
  refine Post.run (Post.bnd awake16 (Post.brF rfl (Post.bnd hc (Post.bnd (side14_F a) (Post.bnd (side14_F b) (Post.bnd (rest_F cs _ _ _ (by omega)) (Post.bnd (ints_F cs (by omega) hcl) ?_)))))))
  rw [hw, hw]
  refine Post.bnd (rrest_F cs _ _ _ (by omega) (by omega)) (Post.bnd (like_F _ (by rw [tab_len]; omega) (fun k => ?_)) (Post.brT rfl (Post.bnd (level_F _) (Post.bnd (side14_F _) (Post.pure ?_)))))
  · by_cases h : k < cs.length
    · rw [tab_getD _ _ h]
      have := hcl k
      rcases rest_cases (fn cs) (if b = true then 1 else 0) (level % 126) cs.length k (side_of a) with ⟨h1, _⟩ | ⟨h1, _⟩
      · rw [h1]; exact this
      · omega
    · rw [getD_len (by rw [tab_len]; omega)]
      omega
  · rw [Int.tmod_eq_emod_of_nonneg (by omega)]
    unfold emb
    by_cases h : level % 126 % 2 = 1
    · rw [if_pos ⟨by omega, h⟩, h]
      rfl
    · rw [if_neg (by omega), show level % 126 % 2 = 0 by omega]
      rfl
theorem neutralRest_all (x : Tys.I [.sl (.int .u8), .int .u8, .bool, .bool]) (h : WfAll [.sl (.int .u8), .int .u8, .bool, .bool] x) (hb : bulkAll [.sl (.int .u8), .int .u8, .bool, .bool] x ≤ 1048576) : law16_NeutralRest_F x.1 x.2.1 x.2.2.1 x.2.2.2.1 = some true := by
  simp only [bulkAll, bulk] at hb
  exact neutralRest_true _ _ _ _ (by omega) (fun n hn => wf_u8 (h.1.2 n hn)) (wf_u8 h.2.1)

theorem neutralSides_true (ns : List Int) (level : Int) (a b : Bool) (hn : ns.length ≤ 2097152) (h8 : ∀ n ∈ ns, 0 ≤ n ∧ n ≤ 255) (hl : 0 ≤ level ∧ level ≤ 255) : law16_NeutralSides_F ns level a b = some true := by
  unfold law16_NeutralSides_F law16_NeutralSides_T
  have hc := classes_F ns hn h8
  have hlen : (tab ns.length fun i => ns.getD i 0 % 23).length = ns.length := tab_len _ _
  generalize (tab ns.length fun i => ns.getD i 0 % 23) = cs at *
  rw [level_of hl]
  refine Post.run (Post.bnd awake16 (Post.brF rfl (Post.bnd hc (Post.bnd (side14_F a) (Post.bnd (side14_F b) (Post.bnd (rest_F cs _ _ _ (by omega)) (Post.brF (by simp [tab_len]) ?_)))))))
  have hr := fun k => rest_cases (fn cs) (if b = true then 1 else 0) (level % 126) cs.length k (side_of a)
  generalize rest (fn cs) (if a = true then 1 else 0) (if b = true then 1 else 0) (emb (level % 126)) cs.length = g at *
  rw [tab_len]
  refine Post.altL (b := ()) (count (L := fun s : List Int × List Int × Int × Int => law16_NeutralSides_L8 s.1 s.2.1 s.2.2.1 s.2.2.2) cs.length (fun k => (cs, tab cs.length g, (cs.length : Int), (k : Int))) rfl (fun k hk => ?_) ?_) (Post.pure rfl)
  · dsimp only
    unfold law16_NeutralSides_L8
    have hg : ∀ {f : Int → Tr (Lap (List Int × List Int × Int × Int) (Sum Unit Bool))} {Q}, Post (f (fn cs k)) Q → Post (.bnd (idx cs (k : Int)) f) Q := fun h => Post.idx 0 k rfl hk h
    refine Post.brT (by rw [decide_eq_true_eq]; omega) (ptab k rfl hk ?_)
    rw [wrap_succ (by omega)]
    have hr := hr k
    generalize fn cs k = c at *
    generalize g k = v at *
    have cases : (v = 0 ∧ c = 0) ∨ (v = 1 ∧ c = 1) ∨ (v = 2 ∧ c = 2) ∨ (v = 3 ∧ c = 3) ∨ (v = 6 ∧ c = 6) ∨ (v = 0 ∧ c ≠ 0 ∧ c ≠ 1 ∧ c ≠ 2 ∧ c ≠ 3 ∧ c ≠ 6) ∨ (v = 1 ∧ c ≠ 0 ∧ c ≠ 1 ∧ c ≠ 2 ∧ c ≠ 3 ∧ c ≠ 6) := by omega
    rcases cases with ⟨rfl, h⟩ | ⟨rfl, h⟩ | ⟨rfl, h⟩ | ⟨rfl, h⟩ | ⟨rfl, h⟩ | ⟨rfl, h⟩ | ⟨rfl, h⟩
    all_goals
      repeat' (first | exact Post.pure rfl | refine hg ?_ | (first | refine Post.brT (by simp only [Bool.or_eq_true, Bool.and_eq_true, beq_iff_eq, bne_iff_ne, decide_eq_true_eq, ne_eq, Bool.not_eq_true', beq_eq_false_iff_ne, bne_eq_false_iff_eq, decide_eq_false_iff_not, Decidable.not_not, Bool.or_eq_false_iff, Bool.and_eq_false_iff, Bool.not_eq_false']; omega) ?_ | refine Post.brF (by simp only [Bool.or_eq_true, Bool.and_eq_true, beq_iff_eq, bne_iff_ne, decide_eq_true_eq, ne_eq, Bool.not_eq_true', beq_eq_false_iff_ne, bne_eq_false_iff_eq, decide_eq_false_iff_not, Decidable.not_not, Bool.or_eq_false_iff, Bool.and_eq_false_iff, Bool.not_eq_false']; omega) ?_))
  · dsimp only
    unfold law16_NeutralSides_L8
    exact Post.brF (by simp) (Post.pure rfl)
theorem neutralSides_all (x : Tys.I [.sl (.int .u8), .int .u8, .bool, .bool]) (h : WfAll [.sl (.int .u8), .int .u8, .bool, .bool] x) (hb : bulkAll [.sl (.int .u8), .int .u8, .bool, .bool] x ≤ 1048576) : law16_NeutralSides_F x.1 x.2.1 x.2.2.1 x.2.2.2.1 = some true := by
  simp only [bulkAll, bulk] at hb
  exact neutralSides_true _ _ _ _ (by omega) (fun n hn => wf_u8 (h.1.2 n hn)) (wf_u8 h.2.1)

/-! ### none but neutral ones -/
theorem nx_all {f : Nat → Int} (eos : Int) : ∀ r k, (∀ i, dir (f i) = 13) → nx f eos r k = eos
  | 0, _, _ => rfl
  | r + 1, k, h => by
    rw [show nx f eos (r + 1) k = if dir (f k) = 13 then nx f eos r (k + 1) else dir (f k) from rfl, if_pos (h k)]
    exact nx_all eos r (k + 1) h
theorem pd_all {f : Nat → Int} (sos : Int) (k : Nat) (h : ∀ i, i < k → dir (f i) = 13) : pd f sos k = sos := by
  have := pd_run (f := f) (sos := sos) (m := 0) k fun i _ hi => h i (by omega)
  rwa [Nat.zero_add] at this
theorem neutralAlone_true (ns : List Int) (level : Int) (hn : ns.length ≤ 2097152) (h8 : ∀ n ∈ ns, 0 ≤ n ∧ n ≤ 255) (hl : 0 ≤ level ∧ level ≤ 255) : law16_NeutralAlone_F ns level = some true := by
  unfold law16_NeutralAlone_F law16_NeutralAlone_T
  have hc := classes_F ns hn h8
  have hlen : (tab ns.length fun i => ns.getD i 0 % 23).length = ns.length := tab_len _ _
  generalize (tab ns.length fun i => ns.getD i 0 % 23) = cs at *
  refine Post.run (Post.bnd awake16 (Post.brF rfl (Post.bnd hc ?_)))
  refine Post.loop (L := fun s : Int × List Int × List Int × Int × Int => law16_NeutralAlone_L5 s.1 s.2.1 s.2.2.1 s.2.2.2.1 s.2.2.2.2) (fun s => ∃ (k : Nat) (out : List Int), k ≤ cs.length ∧ s = (level, out, cs, (cs.length : Int), (k : Int)) ∧ out.length ≤ k ∧ ∀ c ∈ out, 6 < c) (fun s => cs.length - s.2.2.2.2.toNat) (R := fun r => ∃ out : List Int, r = (level, out) ∧ out.length ≤ cs.length ∧ ∀ c ∈ out, 6 < c) ⟨0, [], by omega, rfl, by simp, by simp⟩ ?_ ?_
  · rintro s ⟨k, out, hk, rfl, h1, h2⟩
    dsimp only
    unfold law16_NeutralAlone_L5
    by_cases e : k < cs.length
    · refine Post.brT (by rw [decide_eq_true_eq]; omega) (Post.idx 0 k rfl e ?_)
      rw [wrap_succ (by omega)]
      by_cases e2 : cs.getD k 0 > 6
      · refine Post.brT (decide_eq_true e2) (Post.bnd (app_eq (by simp; omega)) (Post.pure ⟨⟨k + 1, _, e, rfl, by simp; omega, fun c hc => ?_⟩, by dsimp only; omega⟩))
        rcases List.mem_append.1 hc with hc | hc
        · exact h2 c hc
        · rw [List.mem_singleton.1 hc]; exact e2
      · exact Post.brF (decide_eq_false e2) (Post.pure ⟨⟨k + 1, _, e, rfl, by omega, h2⟩, by dsimp only; omega⟩)
    · exact Post.brF (by rw [decide_eq_false_iff_not]; omega) (Post.pure ⟨out, rfl, by omega, h2⟩)
  · rintro _ ⟨out, rfl, h1, h2⟩
    dsimp only
    rw [level_of hl]
    have hd : ∀ i, i < out.length → dir (fn out i) = 13 := fun i hi => by
      have hm : out.getD i 0 ∈ out := by simp [List.getD, hi]
      have := h2 _ hm
      have := dir_cases (out.getD i 0)
      show dir (out.getD i 0) = 13
      omega
    refine Post.bnd (level_F _) (Post.bnd (rest_F out _ _ _ (by omega)) ?_)
    have he : tab out.length (rest (fn out) (emb (level % 126)) (emb (level % 126)) (emb (level % 126)) out.length) = tab out.length fun _ => emb (level % 126) := tab_congr fun k hk => by
      unfold rest
      rw [if_pos (hd k hk), pd_all _ k fun i hi => hd i (by omega)]
      split <;> rfl
    rw [he, tab_len]
    generalize emb (level % 126) = own
    refine Post.altL (b := (out, tab out.length fun _ => own)) (count (L := fun s : List Int × Int × List Int × Int × Int => law16_NeutralAlone_L14 s.1 s.2.1 s.2.2.1 s.2.2.2.1 s.2.2.2.2) out.length (fun k => (out, own, tab out.length fun _ => own, (out.length : Int), (k : Int))) rfl (fun k hk => ?_) ?_) (Post.pure (by simp [tab_len]))
    · dsimp only
      unfold law16_NeutralAlone_L14
      refine Post.brT (by rw [decide_eq_true_eq]; omega) (ptab k rfl hk (Post.brF (by simp) (Post.pure (by rw [wrap_succ (by omega)]))))
    · dsimp only
      unfold law16_NeutralAlone_L14
      exact Post.brF (by simp) (Post.pure rfl)
theorem neutralAlone_all (x : Tys.I [.sl (.int .u8), .int .u8]) (h : WfAll [.sl (.int .u8), .int .u8] x) (hb : bulkAll [.sl (.int .u8), .int .u8] x ≤ 1048576) : law16_NeutralAlone_F x.1 x.2.1 = some true := by
  simp only [bulkAll, bulk] at hb
  exact neutralAlone_true _ _ (by omega) (fun n hn => wf_u8 (h.1.2 n hn)) (wf_u8 h.2.1)
end Go.Proofs.YtaahkcepdgmagaaDoor
