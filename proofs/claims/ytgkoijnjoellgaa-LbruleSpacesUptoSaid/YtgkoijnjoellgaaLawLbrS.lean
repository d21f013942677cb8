/-
  How many spaces stand ahead of a unit, if one does, changes nothing of its boundary.
-/
import Derived.Test.YtgkoijnjoellgaaLawLbrB
namespace Go.Proofs.Ytgkoijnjoellgaa
set_option linter.all false

theorem sol_run {f : Nat → Int} {n : Nat} : ∀ j, (∀ i, n ≤ i → i < n + j → f i = 9) → sol f (n + j) = sol f n
  | 0, _ => rfl
  | j + 1, h => by
    rw [show n + (j + 1) = (n + j) + 1 by omega, show sol f (n + j + 1) = if f (n + j) = 9 then sol f (n + j) else f (n + j) from rfl, if_pos (h (n + j) (by omega) (by omega))]
    exact sol_run j fun i h1 h2 => h i h1 (by omega)
theorem sol_congr {f g : Nat → Int} : ∀ k, (∀ i, i < k → f i = g i) → sol f k = sol g k
  | 0, _ => rfl
  | k + 1, h => by
    unfold sol
    rw [h k (by omega), sol_congr k fun i hi => h i (by omega)]
theorem early_nine (c s : Int) (j : Bool) : early 9 c s j ≠ 3 := by
  unfold early
  rw [if_neg (by omega), if_neg (show ¬ En 9 by unfold En; omega)]
  by_cases h1 : En c ∨ c = 9 ∨ c = 10
  · rw [if_pos h1]; decide
  rw [if_neg h1]
  by_cases h2 : s = 10
  · rw [if_pos h2]; decide
  rw [if_neg h2]
  by_cases h3 : j = true
  · rw [if_pos h3]; decide
  rw [if_neg h3]
  by_cases h4 : Gl 9 c
  · rw [if_pos h4]; decide
  rw [if_neg h4]
  by_cases h5 : Sp s c
  · rw [if_pos h5]; decide
  rw [if_neg h5, if_pos rfl]
  decide
/-- behind a space -/
theorem sts_space {f : Nat → Int} {n k : Nat} (hk : f k = 9) : sts f (fun _ => false) n (k + 1) = early 9 (f (k + 1)) (sol f (k + 1)) false := by
  rw [show sts f (fun _ => false) n (k + 1) = stat (pst f (fun _ => false) (k + 1)) (f (k + 1)) (fol f n (k + 1)) from if_neg (Nat.succ_ne_zero k)]
  have e : lst f (k + 1) = 9 := hk
  refine stat_early ?_ (early_nine _ _ _)
  show early (lst f (k + 1)) (f (k + 1)) (sol f (k + 1)) false = _
  rw [e]

@[reducible] def rep9 (cs : List Int) (j : Nat) : List Int := cs ++ List.replicate j 9
@[reducible] def lastOf (cs : List Int) (j : Nat) (c : Int) : List Int := rep9 cs j ++ [c]
theorem lastOf_at {cs : List Int} {j : Nat} {c : Int} {i : Nat} (h1 : cs.length ≤ i) (h2 : i < cs.length + j) : (lastOf cs j c).getD i 0 = 9 := by
  unfold lastOf rep9 List.getD
  rw [List.getElem?_append_left (by simp; omega), List.getElem?_append_right h1, List.getElem?_replicate, if_pos (by omega)]
  rfl
theorem lastOf_lt {cs : List Int} {j : Nat} {c : Int} {i : Nat} (h : i < cs.length) : (lastOf cs j c).getD i 0 = cs.getD i 0 := by
  unfold lastOf rep9 List.getD
  rw [List.getElem?_append_left (by simp; omega), List.getElem?_append_left h]
theorem lastOf_end {cs : List Int} {j : Nat} {c : Int} : (lastOf cs j c).getD (cs.length + j) 0 = c := by
  unfold lastOf rep9 List.getD
  rw [List.getElem?_append_right (by simp)]
  simp
theorem plainS_last (cs : List Int) (j : Nat) (c : Int) : plainS (lastOf cs (j + 1) c) (cs.length + (j + 1)) = early 9 c (sol (fun i => cs.getD i 0) cs.length) false := by
  have e := sts_space (f := fun i => (lastOf cs (j + 1) c).getD i 0) (n := (lastOf cs (j + 1) c).length) (k := cs.length + j) (lastOf_at (by omega) (by omega))
  have e1 : (lastOf cs (j + 1) c).getD (cs.length + j + 1) 0 = c := lastOf_end
  have e2 : sol (fun i => (lastOf cs (j + 1) c).getD i 0) (cs.length + j + 1) = sol (fun i => cs.getD i 0) cs.length := by
    have h1 := sol_run (f := fun i => (lastOf cs (j + 1) c).getD i 0) (n := cs.length) (j + 1) fun i g1 g2 => lastOf_at g1 g2
    rw [show cs.length + (j + 1) = cs.length + j + 1 by omega] at h1
    rw [h1]
    exact sol_congr _ fun i hi => lastOf_lt hi
  have e : plainS (lastOf cs (j + 1) c) (cs.length + (j + 1)) = early 9 ((lastOf cs (j + 1) c).getD (cs.length + j + 1) 0) (sol (fun i => (lastOf cs (j + 1) c).getD i 0) (cs.length + j + 1)) false := e
  rw [e1, e2] at e
  exact e

theorem lbruleSpaces_true (ns : List Int) (c more : Int) (hn : ns.length ≤ 2097152) (h8 : ∀ n ∈ ns, 0 ≤ n ∧ n ≤ 255) (hm : 0 ≤ more ∧ more ≤ 255) : law20_LbruleSpaces_F ns c more = some true := by
  unfold law20_LbruleSpaces_F law20_LbruleSpaces_T
  have hc := classes_F ns hn h8
  have hl : (tab ns.length fun i => ns.getD i 0 % 43).length = ns.length := tab_len _ _
  generalize (tab ns.length fun i => ns.getD i 0 % 43) = cs at *
  refine Post.run (Post.bnd awake20 (Post.brF rfl (Post.bnd hc (Post.bnd (app_eq (by simp; omega)) (Post.bnd (app_eq (by simp; omega)) (Post.bnd (app_eq (by simp; omega)) ?_))))))
  have hk : IntKind.i64.wrap (more.tmod 6) = (((more % 6).toNat : Nat) : Int) := by
    rw [Int.tmod_eq_emod_of_nonneg hm.1, wrap64 (by omega) (by omega)]
    omega
  have hk6 : (more % 6).toNat ≤ 5 := by omega
  have e0 : ([] : List Int) ++ cs ++ [9] = rep9 cs 1 := rfl
  have e0' : ([] : List Int) ++ ([] ++ cs ++ [9]) = rep9 cs 1 := rfl
  rw [e0', e0]
  have hrl : ∀ j, (rep9 cs j).length = cs.length + j := fun j => by simp [rep9]
  have hra : ∀ j, rep9 cs j ++ [9] = rep9 cs (j + 1) := fun j => by
    unfold rep9
    rw [List.append_assoc, List.replicate_succ']
  refine Post.bnd (count (L := fun s : Int × Int × List Int × List Int × Int => law20_LbruleSpaces_L7 s.1 s.2.1 s.2.2.1 s.2.2.2.1 s.2.2.2.2) (more % 6).toNat (fun k => (c, more, rep9 cs 1, rep9 cs (k + 1), (k : Int))) (r := (c, rep9 cs 1, rep9 cs ((more % 6).toNat + 1))) rfl (fun k hk2 => ?_) ?_) ?_
  · dsimp only
    unfold law20_LbruleSpaces_L7
    rw [hk]
    refine Post.brT (by rw [decide_eq_true_eq]; omega) (Post.bnd (app_eq (by rw [hrl]; simp; omega)) (Post.pure ?_))
    rw [wrap_succ (by omega), hra]
  · dsimp only
    unfold law20_LbruleSpaces_L7
    rw [hk]
    exact Post.brF (by rw [decide_eq_false_iff_not]; omega) (Post.pure rfl)
  · dsimp only
    generalize (more % 6).toNat = j at *
    generalize c.tmod 43 = d
    have hll : ∀ j, (lastOf cs j d).length = cs.length + j + 1 := fun j => by simp [lastOf, rep9]; omega
    refine Post.bnd (app_eq (by rw [hrl]; simp; omega)) (Post.bnd (of_F (lastOf cs 1 d) (by rw [hll]; omega)) (Post.bnd (between_of (lastOf cs 1 d) (by rw [hll]; omega)) ?_))
    refine Post.bnd (app_eq (by rw [hrl]; simp; omega)) (Post.bnd (of_F (lastOf cs (j + 1) d) (by rw [hll]; omega)) (Post.bnd (between_of (lastOf cs (j + 1) d) (by rw [hll]; omega)) ?_))
    rw [hrl, hrl, wrap_succ (by omega), wrap_succ (by omega)]
    refine Post.brT (by rw [beq_iff_eq, tab_len, hll]) (Post.brT (by rw [beq_iff_eq, tab_len, hll]) ?_)
    refine ptab (cs.length + 1) rfl (by rw [hll]; omega) (ptab (cs.length + (j + 1)) rfl (by rw [hll]; omega) (Post.pure ?_))
    rw [plainS_last cs 0 d, plainS_last cs j d]
    simp
theorem lbruleSpaces_all (x : Tys.I [.sl (.int .u8), .int .u8, .int .u8]) (h : WfAll [.sl (.int .u8), .int .u8, .int .u8] x) (hb : bulkAll [.sl (.int .u8), .int .u8, .int .u8] x ≤ 1048576) : law20_LbruleSpaces_F x.1 x.2.1 x.2.2.1 = some true := by
  simp only [bulkAll, bulk] at hb
  exact lbruleSpaces_true _ _ _ (by omega) (fun n hn => wf_u8 (h.1.2 n hn)) (wf_u8 h.2.2.1)
end Go.Proofs.Ytgkoijnjoellgaa
