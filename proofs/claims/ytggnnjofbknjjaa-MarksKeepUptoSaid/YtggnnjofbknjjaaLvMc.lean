/-
  Parts of elder texts, cut out for the levels.
-/
import Derived.Test.YtggnnjofbknjjaaLawMarks
namespace Go.Proofs.Ytggnnjofbknjjaa
set_option linter.all false
def lev (ns : List Int) (i : Nat) : Int := if (ns.getD i 0) % 8 = 7 then -1 else ((ns.getD i 0) / 8) % 6
theorem levels_F (ns : List Int) (hn : ns.length ≤ 2097152) (h8 : ∀ n ∈ ns, 0 ≤ n ∧ n ≤ 255) : law12_Levels_F ns = some (tab ns.length (lev ns)) := by
  unfold law12_Levels_F law12_Levels_T
  have hl := loopW_count (f := fun s : List Int × List Int × Int => (law12_Levels_L3 s.1 s.2.1 s.2.2).run) ns.length
    (fun k => (ns, tab k (lev ns), (k : Int))) (r := tab ns.length (lev ns)) ?_ ?_
  · rw [show ((0 : Nat) : Int) = 0 from rfl, tab_zero] at hl
    rw [Tr.run_bnd_some hl]
    rfl
  · intro k hk
    dsimp only
    have hm := h8 (ns.getD k 0) (by simp [List.getD, hk])
    unfold law12_Levels_L3
    rw [Tr.run_br, if_pos (by simp; omega), Tr.run_bnd_some (idx_getD 0 rfl hk), Tr.run_br, Int.tmod_eq_emod_of_nonneg hm.1, wrap64 (n := (k : Int) + 1) (by omega) (by omega)]
    by_cases e : ns.getD k 0 % 8 = 7
    · rw [if_pos (by simpa using e), Tr.run_bnd_some (app_eq (by simp [tab_len]; omega)), Tr.run_pure, ← tab_succ k (lev ns), lev, if_pos e]
      rfl
    · have hd : (ns.getD k 0).tdiv 8 = ns.getD k 0 / 8 := Int.tdiv_eq_ediv_of_nonneg hm.1
      rw [if_neg (by simpa using e), Tr.run_bnd_some (idx_getD 0 rfl hk), Tr.run_bnd_some (app_eq (by simp [tab_len]; omega)), Tr.run_pure, ← tab_succ k (lev ns), lev, if_neg e, hd, wrapU8 (by omega) (by omega), wrap64 (by omega) (by omega),
        Int.tmod_eq_emod_of_nonneg (by omega)]
      rfl
  · dsimp only
    unfold law12_Levels_L3
    rw [Tr.run_br, if_neg (by simp), Tr.run_pure]
theorem classes_F (ns : List Int) (hn : ns.length ≤ 2097152) (h8 : ∀ n ∈ ns, 0 ≤ n ∧ n ≤ 255) : ∃ cs, law08_Classes_F ns = some cs ∧ cs.length = ns.length ∧ cs = tab ns.length (fun i => (ns.getD i 0) % 23) ∧ ∀ c ∈ cs, 0 ≤ c ∧ c ≤ 22 := by
  refine ⟨tab ns.length (fun i => (ns.getD i 0) % 23), ?_, tab_len _ _, rfl, ?_⟩
  · unfold law08_Classes_F law08_Classes_T
    have hl := loopW_count (f := fun s : List Int × List Int × Int => (law08_Classes_L3 s.1 s.2.1 s.2.2).run) ns.length
      (fun k => (ns, tab k (fun i => (ns.getD i 0) % 23), (k : Int))) (r := tab ns.length (fun i => (ns.getD i 0) % 23)) ?_ ?_
    · rw [show ((0 : Nat) : Int) = 0 from rfl, tab_zero] at hl
      rw [Tr.run_bnd_some hl]
      rfl
    · intro k hk
      dsimp only
      unfold law08_Classes_L3
      have hm := h8 (ns.getD k 0) (by simp [List.getD, hk])
      rw [Tr.run_br, if_pos (by simp; omega), Tr.run_bnd_some (idx_getD 0 rfl hk), Tr.run_bnd_some (app_eq (by simp only [tab_len, List.length_cons, List.length_nil]; omega)), Tr.run_pure, Int.tmod_eq_emod_of_nonneg hm.1,
        wrap64 (by omega) (by omega), tab_succ k (fun i => (ns.getD i 0) % 23)]
      rfl
    · dsimp only
      unfold law08_Classes_L3
      rw [Tr.run_br, if_neg (by simp), Tr.run_pure]
  · intro c hc
    simp only [tab, List.mem_map] at hc
    obtain ⟨i, _, rfl⟩ := hc
    omega
theorem widths_F (ns : List Int) (hn : ns.length ≤ 2097152) (h8 : ∀ n ∈ ns, 0 ≤ n ∧ n ≤ 255) : law22_Widths_F ns = some (tab ns.length fun i => ns.getD i 0 % 3) := by
  unfold law22_Widths_F law22_Widths_T
  refine Post.run (Post.bnd (count (L := fun s : List Int × List Int × Int => law22_Widths_L3 s.1 s.2.1 s.2.2) ns.length (fun k => (ns, tab k fun i => ns.getD i 0 % 3, (k : Int))) rfl (fun k hk => ?_) ?_) (Post.pure rfl))
  · have hm : 0 ≤ ns.getD k 0 ∧ ns.getD k 0 ≤ 255 := by
      refine h8 _ ?_
      simp [List.getD, hk]
    dsimp only
    unfold law22_Widths_L3
    refine Post.brT (by rw [decide_eq_true_eq]; omega) (Post.idx 0 k rfl hk (Post.bnd (app_eq (by rw [tab_len]; simp; omega)) (Post.pure ?_)))
    rw [Int.tmod_eq_emod_of_nonneg hm.1, wrap64 (by omega) (by omega), wrap_succ (by omega), ← tab_succ]
  · dsimp only
    unfold law22_Widths_L3
    exact Post.brF (by simp) (Post.pure rfl)
theorem least3 (a b c : Nat) : ∃ n : Nat, (n : Int) = (if (c : Int) < (if (b : Int) < (a : Int) then (b : Int) else (a : Int)) then (c : Int) else (if (b : Int) < (a : Int) then (b : Int) else (a : Int))) ∧ n ≤ a ∧ n ≤ b ∧ n ≤ c := by
  refine ⟨min (min a b) c, ?_, by omega, by omega, by omega⟩
  split <;> split <;> omega

end Go.Proofs.Ytggnnjofbknjjaa
