/-
  Parts of elder texts, cut out for the levels.
-/
import Derived.Test.YtenbhmjcoljddaaDoorSh
import Derived.Test.YtenbhmjcoljddaaDoorEvMath
namespace Go.Proofs.YtenbhmjcoljddaaDoor.Bd
set_option linter.all false
def findB (t : List (Int × Int × Int)) (r o : Int) : Nat → Nat → Nat → Int
  | 0, _, _ => o
  | n + 1, lo, hi => if lo < hi then
      (match t[(lo + hi) / 2]? with
      | some x => if r < x.1 then findB t r o n lo ((lo + hi) / 2) else if r > x.2.1 then findB t r o n ((lo + hi) / 2 + 1) hi else x.2.2
      | none => o) else o
def finds (t : List (Int × Int × Int)) (r o : Int) : Int := findB t r o (t.length + 1) 0 t.length
theorem find_F (t : List (Int × Int × Int)) (r o : Int) (hn : t.length ≤ 1000000) : ranges_Find_F t r o = some (finds t r o) := by
  unfold ranges_Find_F ranges_Find_T
  have key : ∀ (n lo hi : Nat), hi ≤ t.length → lo ≤ hi → hi - lo < n → ∃ z, loopW (fun s : (List (Int × Int × Int)) × Int × Int × Int × Int => (ranges_Find_L2 s.1 s.2.1 s.2.2.1 s.2.2.2.1 s.2.2.2.2).run) (t, r, o, (lo : Int), (hi : Int)) = some z ∧ (z = .inl (findB t r o n lo hi) ∨ z = .inr (findB t r o n lo hi)) := by
    intro n
    induction n with
    | zero => intro lo hi _ _ h; omega
    | succ n ih =>
      intro lo hi hh hlh hlt
      by_cases h : lo < hi
      · have hm : (lo + hi) / 2 < t.length := by omega
        have ew : IntKind.i64.wrap ((IntKind.i64.wrap ((lo : Int) + (hi : Int))).tdiv 2) = (((lo + hi) / 2 : Nat) : Int) := by
          rw [wrap64 (n := (lo : Int) + (hi : Int)) (by omega) (by omega), Int.tdiv_eq_ediv_of_nonneg (by omega), wrap64 (by omega) (by omega)]; omega
        have hx : t[(lo + hi) / 2]? = some (t.getD ((lo + hi) / 2) (0, 0, 0)) := by rw [List.getElem?_eq_getElem hm]; simp [List.getD, hm]
        generalize he : t.getD ((lo + hi) / 2) (0, 0, 0) = x at hx
        have hf : findB t r o (n + 1) lo hi = if r < x.1 then findB t r o n lo ((lo + hi) / 2) else if r > x.2.1 then findB t r o n ((lo + hi) / 2 + 1) hi else x.2.2 := by
          show (if lo < hi then (match t[(lo + hi) / 2]? with | some x => if r < x.1 then findB t r o n lo ((lo + hi) / 2) else if r > x.2.1 then findB t r o n ((lo + hi) / 2 + 1) hi else x.2.2 | none => o) else o) = _
          rw [if_pos h, hx]
        have step : ∀ {l : Lap ((List (Int × Int × Int)) × Int × Int × Int × Int) (Sum Int Int)}, Post (ranges_Find_L2 t r o lo hi) (· = l) → (ranges_Find_L2 t r o lo hi).run = some l := fun h => h.run
        by_cases h1 : r < x.1
        · rw [if_pos h1] at hf
          obtain ⟨z, hz, hz2⟩ := ih lo ((lo + hi) / 2) (by omega) (by omega) (by omega)
          refine ⟨z, loopW_next (step ?_) hz, by rw [hf]; exact hz2⟩
          unfold ranges_Find_L2
          rw [ew]
          refine Post.brT (by simpa using h) (Post.idx (0, 0, 0) _ rfl hm ?_)
          rw [he]
          exact Post.brT (by simpa using h1) (Post.pure rfl)
        · by_cases h2 : r > x.2.1
          · rw [if_neg h1, if_pos h2] at hf
            obtain ⟨z, hz, hz2⟩ := ih ((lo + hi) / 2 + 1) hi (by omega) (by omega) (by omega)
            refine ⟨z, loopW_next (step ?_) hz, by rw [hf]; exact hz2⟩
            unfold ranges_Find_L2
            rw [ew]
            refine Post.brT (by simpa using h) (Post.idx (0, 0, 0) _ rfl hm ?_)
            rw [he]
            refine Post.brF (by simpa using h1) (Post.idx (0, 0, 0) _ rfl hm ?_)
            rw [he]
            refine Post.brT (by simpa using h2) (Post.pure ?_)
            rw [wrap64 (by omega) (by omega)]; rfl
          · rw [if_neg h1, if_neg h2] at hf
            refine ⟨_, loopW_done (step ?_), .inr rfl⟩
            unfold ranges_Find_L2
            rw [ew, hf]
            refine Post.brT (by simpa using h) (Post.idx (0, 0, 0) _ rfl hm ?_)
            rw [he]
            refine Post.brF (by simpa using h1) (Post.idx (0, 0, 0) _ rfl hm ?_)
            rw [he]
            refine Post.brF (by simpa using h2) (Post.idx (0, 0, 0) _ rfl hm ?_)
            rw [he]
            exact Post.pure rfl
      · have hf : findB t r o (n + 1) lo hi = o := by
          show (if lo < hi then _ else o) = o
          rw [if_neg h]
        refine ⟨.inl o, loopW_done (Post.run ?_), .inl (by rw [hf])⟩
        show Post (ranges_Find_L2 t r o lo hi) _
        unfold ranges_Find_L2
        exact Post.brF (by simpa using h) (Post.pure rfl)
  obtain ⟨z, hz, hz2⟩ := key (t.length + 1) 0 t.length (by omega) (by omega) (by omega)
  rcases hz2 with rfl | rfl
  · exact Post.run (Post.altL hz (Post.pure rfl))
  · exact Post.run (Post.altR hz (Post.pure rfl))
noncomputable def bidicT : List (Int × Int × Int) := bidic_rows_F.getD []
theorem bidic_rows : bidic_rows_F = some bidicT := by kernel_rfl
theorem bidicT_len : decide (bidicT.length ≤ 1000) = true := by kernel_rfl
theorem bidic_table : bidic_Table_F = some bidicT := by
  have hl : bidicT.length ≤ 1000 := of_decide_eq_true bidicT_len
  unfold bidic_Table_F bidic_Table_T
  refine Post.run (Post.bnd bidic_rows (Post.bnd (mk_eq (k := bidicT.length) rfl (by omega)) (Post.bnd (count (L := fun s : (List (Int × Int × Int)) × (List (Int × Int × Int)) × Int × Int => bidic_Table_L4 s.1 s.2.1 s.2.2.1 s.2.2.2) bidicT.length
    (fun k => (tab bidicT.length (fun i => if i < k then bidicT.getD i (0, 0, 0) else (0, 0, 0)), bidicT, (bidicT.length : Int), (k : Int))) ?_ (fun k hk => ?_) ?_) (Post.pure rfl))))
  · rw [tab_rep]; simp
  · dsimp only
    unfold bidic_Table_L4
    refine Post.brT (by simpa using hk) (Post.idx (0, 0, 0) k rfl hk ?_)
    refine Post.idx (0, 0, 0) 0 rfl (by simp) (Post.idx (0, 0, 0) 0 rfl (by simp) (Post.idx (0, 0, 0) 0 rfl (by simp) (Post.idx (0, 0, 0) k rfl (by rw [tab_len]; exact hk) (Post.pure ?_))))
    rw [wrap64 (by omega) (by omega), Int.toNat_natCast, tab_set]
    have e : tab bidicT.length (fun i => if i = k then bidicT.getD k (0, 0, 0) else if i < k then bidicT.getD i (0, 0, 0) else (0, 0, 0)) = tab bidicT.length (fun i => if i < k + 1 then bidicT.getD i (0, 0, 0) else (0, 0, 0)) := tab_congr fun p hp => by
      by_cases e : p = k
      · subst e; simp
      · by_cases h : p < k
        · rw [if_neg e, if_pos h, if_pos (by omega)]
        · rw [if_neg e, if_neg h, if_neg (by omega)]
    rw [← e]; rfl
  · dsimp only
    unfold bidic_Table_L4
    refine Post.brF (by simp) (Post.pure ?_)
    have e : tab bidicT.length (fun i => if i < bidicT.length then bidicT.getD i (0, 0, 0) else (0, 0, 0)) = bidicT := (tab_ext (0, 0, 0) rfl fun k hk => by rw [if_pos hk]).symm
    rw [e]
theorem bidic_of (rs : List Int) (hn : rs.length ≤ 4194304) : bidic_Of_F rs = some (tab rs.length fun i => finds bidicT (rs.getD i 0) 0) := by
  have hl : bidicT.length ≤ 1000 := of_decide_eq_true bidicT_len
  unfold bidic_Of_F bidic_Of_T
  refine Post.run (Post.bnd bidic_table (Post.bnd (mk_eq (k := rs.length) rfl (by omega)) (Post.bnd (count (L := fun s : (List (Int × Int × Int)) × List Int × List Int × Int × Int => bidic_Of_L4 s.1 s.2.1 s.2.2.1 s.2.2.2.1 s.2.2.2.2) rs.length
    (fun k => (bidicT, tab rs.length (fun i => if i < k then finds bidicT (rs.getD i 0) 0 else 0), rs, (rs.length : Int), (k : Int))) ?_ (fun k hk => ?_) ?_) (Post.pure rfl))))
  · rw [tab_rep]; simp
  · dsimp only
    unfold bidic_Of_L4
    refine Post.brT (by simpa using hk) (Post.idx 0 k rfl hk (Post.bnd (find_F _ _ _ (by omega)) (Post.idx 0 k rfl (by rw [tab_len]; exact hk) (Post.pure ?_))))
    rw [wrap64 (by omega) (by omega), Int.toNat_natCast, tab_set]
    have e : tab rs.length (fun i => if i = k then finds bidicT (rs.getD k 0) 0 else if i < k then finds bidicT (rs.getD i 0) 0 else 0) = tab rs.length (fun i => if i < k + 1 then finds bidicT (rs.getD i 0) 0 else 0) := tab_congr fun p hp => by
      by_cases e : p = k
      · subst e; simp
      · by_cases h : p < k
        · rw [if_neg e, if_pos h, if_pos (by omega)]
        · rw [if_neg e, if_neg h, if_neg (by omega)]
    rw [← e]; rfl
  · dsimp only
    unfold bidic_Of_L4
    refine Post.brF (by simp) (Post.pure ?_)
    have e : tab rs.length (fun i => if i < rs.length then finds bidicT (rs.getD i 0) 0 else 0) = tab rs.length (fun i => finds bidicT (rs.getD i 0) 0) := tab_congr fun k hk => by rw [if_pos hk]
    rw [e]

end Go.Proofs.YtenbhmjcoljddaaDoor.Bd
