/-
  The laws of align return true.
-/
import Derived.Test.YtiijkbdffbjehaaSh
import Derived.Test.YtiijkbdffbjehaaEvMath
namespace Go.Proofs.Ytiijkbdffbjehaa
set_option linter.all false

theorem same_F (a : List Int) (hn : a.length ≤ 4194304) : law25_Same_F a a = some true := by
  unfold law25_Same_F law25_Same_T
  refine Post.run (Post.brF (by simp) (Post.altL (b := ()) (count (L := fun s : List Int × List Int × Int => law25_Same_L4 s.1 s.2.1 s.2.2) a.length (fun k => (a, a, (k : Int))) rfl (fun k hk => ?_) ?_) (Post.pure rfl)))
  · dsimp only
    unfold law25_Same_L4
    refine Post.brT (by rw [decide_eq_true_eq]; omega) (Post.idx 0 k rfl hk (Post.idx 0 k rfl hk (Post.brF (by simp) (Post.pure (by rw [wrap_succ (by omega)])))))
  · dsimp only
    unfold law25_Same_L4
    exact Post.brF (by simp) (Post.pure rfl)

/-! ### sums, and how many may grow -/
def sm (g : Nat → Int) : Nat → Int
  | 0 => 0
  | k + 1 => sm g k + g k
def may (gr : List Bool) (i : Nat) : Bool := gr.getD i false
def cnt (gr : List Bool) : Nat → Nat
  | 0 => 0
  | k + 1 => cnt gr k + if may gr k = true then 1 else 0
theorem cnt_succ (gr : List Bool) (k : Nat) : cnt gr (k + 1) = cnt gr k + if may gr k = true then 1 else 0 := rfl
theorem sm_range {g : Nat → Int} (h : ∀ i, 0 ≤ g i ∧ g i ≤ 1000) : ∀ k : Nat, 0 ≤ sm g k ∧ sm g k ≤ 1000 * k
  | 0 => by simp [sm]
  | k + 1 => by
    have := sm_range h k
    have := h k
    unfold sm
    omega
theorem cnt_le (gr : List Bool) : ∀ k, cnt gr k ≤ k
  | 0 => Nat.le_refl _
  | k + 1 => by
    have := cnt_le gr k
    unfold cnt
    split <;> omega
theorem may_F (gr : List Bool) (i : Nat) : align_may_F gr (i : Int) = some (may gr i) := by
  unfold align_may_F align_may_T may
  by_cases h : i < gr.length
  · exact Post.run (Post.brT (by rw [decide_eq_true_eq]; omega) (Post.idx false i rfl h (Post.pure rfl)))
  · exact Post.run (Post.brF (by rw [decide_eq_false_iff_not]; omega) (Post.pure (getD_len (by omega)).symm))
theorem sum_F (n : Nat) (g : Nat → Int) (hn : n ≤ 4194304) (h : ∀ i, 0 ≤ g i ∧ g i ≤ 1000) : cellw_Sum_F (tab n g) = some (sm g n) := by
  unfold cellw_Sum_F cellw_Sum_T
  rw [tab_len]
  refine Post.run (Post.bnd (count (L := fun s : Int × List Int × Int × Int => cellw_Sum_L3 s.1 s.2.1 s.2.2.1 s.2.2.2) n (fun k => (sm g k, tab n g, (n : Int), (k : Int))) rfl (fun k hk => ?_) ?_) (Post.pure rfl))
  · dsimp only
    have h1 := sm_range h k
    have h2 := h k
    unfold cellw_Sum_L3
    (first | refine Post.brT (by simp only [Bool.or_eq_true, Bool.and_eq_true, beq_iff_eq, bne_iff_ne, decide_eq_true_eq, ne_eq, Bool.not_eq_true', beq_eq_false_iff_ne, bne_eq_false_iff_eq, decide_eq_false_iff_not, Decidable.not_not, Bool.or_eq_false_iff, Bool.and_eq_false_iff, Bool.not_eq_false']; omega) ?_ | refine Post.brF (by simp only [Bool.or_eq_true, Bool.and_eq_true, beq_iff_eq, bne_iff_ne, decide_eq_true_eq, ne_eq, Bool.not_eq_true', beq_eq_false_iff_ne, bne_eq_false_iff_eq, decide_eq_false_iff_not, Decidable.not_not, Bool.or_eq_false_iff, Bool.and_eq_false_iff, Bool.not_eq_false']; omega) ?_)
    (first | refine ptab _ rfl (by omega) ?_ | refine Post.bnd (idx_set_at (by omega) (by simp only [List.length_set, tab_len]; omega)) ?_)
    exact Post.pure (by rw [wrap64 (by omega) (by omega), wrap_succ (by omega)]; rfl)
  · dsimp only
    unfold cellw_Sum_L3
    (first | refine Post.brT (by simp only [Bool.or_eq_true, Bool.and_eq_true, beq_iff_eq, bne_iff_ne, decide_eq_true_eq, ne_eq, Bool.not_eq_true', beq_eq_false_iff_ne, bne_eq_false_iff_eq, decide_eq_false_iff_not, Decidable.not_not, Bool.or_eq_false_iff, Bool.and_eq_false_iff, Bool.not_eq_false']; omega) ?_ | refine Post.brF (by simp only [Bool.or_eq_true, Bool.and_eq_true, beq_iff_eq, bne_iff_ne, decide_eq_true_eq, ne_eq, Bool.not_eq_true', beq_eq_false_iff_ne, bne_eq_false_iff_eq, decide_eq_false_iff_not, Decidable.not_not, Bool.or_eq_false_iff, Bool.and_eq_false_iff, Bool.not_eq_false']; omega) ?_)
    exact Post.pure rfl

/-! ### a justified line -/
def jst (gr : List Bool) (g : Nat → Int) (each more : Int) (i : Nat) : Int := if may gr i = true then g i + each + (if (cnt gr i : Int) < more then 1 else 0) else g i
def Jst (gr : List Bool) (n : Nat) (g : Nat → Int) (W : Int) : Nat → Int :=
  if W - sm g n ≤ 0 ∨ cnt gr n = 0 then g else jst gr g ((W - sm g n) / (cnt gr n : Int)) ((W - sm g n) % (cnt gr n : Int))

theorem justify_F (gr : List Bool) (n : Nat) (g : Nat → Int) (W : Int) (hn : n ≤ 4194304) (h : ∀ i, 0 ≤ g i ∧ g i ≤ 1000) (hW : -8589934592 ≤ W ∧ W ≤ 8589934592) : align_Justify_F (tab n g) gr W = some (tab n (Jst gr n g W)) := by
  unfold align_Justify_F align_Justify_T
  have hclone : slices_Clone___int_int__F (tab n g) = some (tab n g) := by
    unfold slices_Clone___int_int__F slices_Clone___int_int__T
    exact Post.run (Post.bnd (app_eq (by rw [tab_len]; simp; omega)) (Post.pure rfl))
  have hs := sm_range h n
  have hc := cnt_le gr n
  rw [tab_len]
  refine Post.run (Post.bnd hclone (Post.bnd (count (L := fun s : List Bool × List Int × Int × Int × List Int × Int × Int => align_Justify_L4 s.1 s.2.1 s.2.2.1 s.2.2.2.1 s.2.2.2.2.1 s.2.2.2.2.2.1 s.2.2.2.2.2.2) n (fun k => (gr, tab n g, W - sm g k, (cnt gr k : Int), tab n g, (n : Int), (k : Int))) (r := (gr, tab n g, W - sm g n, (cnt gr n : Int))) (by simp [sm, cnt]) (fun k hk => ?_) ?_) ?_))
  · dsimp only
    have h1 := sm_range h k
    have h2 := h k
    have h3 := cnt_le gr k
    unfold align_Justify_L4
    rw [wrap_succ (k := k) (by omega)]
    (first | refine Post.brT (by simp only [Bool.or_eq_true, Bool.and_eq_true, beq_iff_eq, bne_iff_ne, decide_eq_true_eq, ne_eq, Bool.not_eq_true', beq_eq_false_iff_ne, bne_eq_false_iff_eq, decide_eq_false_iff_not, Decidable.not_not, Bool.or_eq_false_iff, Bool.and_eq_false_iff, Bool.not_eq_false']; omega) ?_ | refine Post.brF (by simp only [Bool.or_eq_true, Bool.and_eq_true, beq_iff_eq, bne_iff_ne, decide_eq_true_eq, ne_eq, Bool.not_eq_true', beq_eq_false_iff_ne, bne_eq_false_iff_eq, decide_eq_false_iff_not, Decidable.not_not, Bool.or_eq_false_iff, Bool.and_eq_false_iff, Bool.not_eq_false']; omega) ?_)
    (first | refine ptab _ rfl (by omega) ?_ | refine Post.bnd (idx_set_at (by omega) (by simp only [List.length_set, tab_len]; omega)) ?_)
    rw [wrap64 (by omega) (by omega), show sm g (k + 1) = sm g k + g k from rfl, show W - (sm g k + g k) = W - sm g k - g k by omega]
    refine Post.bnd (may_F gr k) (Post.br (fun hm => ?_) (fun hm => ?_))
    · rw [cnt_succ, if_pos hm]
      exact Post.pure (by rw [wrap_succ (k := cnt gr k) (by omega)])
    · rw [cnt_succ, if_neg (by rw [hm]; simp), Nat.add_zero]
      exact Post.pure rfl
  · dsimp only
    unfold align_Justify_L4
    (first | refine Post.brT (by simp only [Bool.or_eq_true, Bool.and_eq_true, beq_iff_eq, bne_iff_ne, decide_eq_true_eq, ne_eq, Bool.not_eq_true', beq_eq_false_iff_ne, bne_eq_false_iff_eq, decide_eq_false_iff_not, Decidable.not_not, Bool.or_eq_false_iff, Bool.and_eq_false_iff, Bool.not_eq_false']; omega) ?_ | refine Post.brF (by simp only [Bool.or_eq_true, Bool.and_eq_true, beq_iff_eq, bne_iff_ne, decide_eq_true_eq, ne_eq, Bool.not_eq_true', beq_eq_false_iff_ne, bne_eq_false_iff_eq, decide_eq_false_iff_not, Decidable.not_not, Bool.or_eq_false_iff, Bool.and_eq_false_iff, Bool.not_eq_false']; omega) ?_)
    exact Post.pure rfl
  · dsimp only
    by_cases h1 : W - sm g n ≤ 0
    · (first | refine Post.brT (by simp only [Bool.or_eq_true, Bool.and_eq_true, beq_iff_eq, bne_iff_ne, decide_eq_true_eq, ne_eq, Bool.not_eq_true', beq_eq_false_iff_ne, bne_eq_false_iff_eq, decide_eq_false_iff_not, Decidable.not_not, Bool.or_eq_false_iff, Bool.and_eq_false_iff, Bool.not_eq_false']; omega) ?_ | refine Post.brF (by simp only [Bool.or_eq_true, Bool.and_eq_true, beq_iff_eq, bne_iff_ne, decide_eq_true_eq, ne_eq, Bool.not_eq_true', beq_eq_false_iff_ne, bne_eq_false_iff_eq, decide_eq_false_iff_not, Decidable.not_not, Bool.or_eq_false_iff, Bool.and_eq_false_iff, Bool.not_eq_false']; omega) ?_)
      exact Post.pure (by unfold Jst; rw [if_pos (.inl h1)])
    · (first | refine Post.brT (by simp only [Bool.or_eq_true, Bool.and_eq_true, beq_iff_eq, bne_iff_ne, decide_eq_true_eq, ne_eq, Bool.not_eq_true', beq_eq_false_iff_ne, bne_eq_false_iff_eq, decide_eq_false_iff_not, Decidable.not_not, Bool.or_eq_false_iff, Bool.and_eq_false_iff, Bool.not_eq_false']; omega) ?_ | refine Post.brF (by simp only [Bool.or_eq_true, Bool.and_eq_true, beq_iff_eq, bne_iff_ne, decide_eq_true_eq, ne_eq, Bool.not_eq_true', beq_eq_false_iff_ne, bne_eq_false_iff_eq, decide_eq_false_iff_not, Decidable.not_not, Bool.or_eq_false_iff, Bool.and_eq_false_iff, Bool.not_eq_false']; omega) ?_)
      by_cases h2 : cnt gr n = 0
      · (first | refine Post.brT (by simp only [Bool.or_eq_true, Bool.and_eq_true, beq_iff_eq, bne_iff_ne, decide_eq_true_eq, ne_eq, Bool.not_eq_true', beq_eq_false_iff_ne, bne_eq_false_iff_eq, decide_eq_false_iff_not, Decidable.not_not, Bool.or_eq_false_iff, Bool.and_eq_false_iff, Bool.not_eq_false']; omega) ?_ | refine Post.brF (by simp only [Bool.or_eq_true, Bool.and_eq_true, beq_iff_eq, bne_iff_ne, decide_eq_true_eq, ne_eq, Bool.not_eq_true', beq_eq_false_iff_ne, bne_eq_false_iff_eq, decide_eq_false_iff_not, Decidable.not_not, Bool.or_eq_false_iff, Bool.and_eq_false_iff, Bool.not_eq_false']; omega) ?_)
        exact Post.pure (by unfold Jst; rw [if_pos (.inr h2)])
      · (first | refine Post.brT (by simp only [Bool.or_eq_true, Bool.and_eq_true, beq_iff_eq, bne_iff_ne, decide_eq_true_eq, ne_eq, Bool.not_eq_true', beq_eq_false_iff_ne, bne_eq_false_iff_eq, decide_eq_false_iff_not, Decidable.not_not, Bool.or_eq_false_iff, Bool.and_eq_false_iff, Bool.not_eq_false']; omega) ?_ | refine Post.brF (by simp only [Bool.or_eq_true, Bool.and_eq_true, beq_iff_eq, bne_iff_ne, decide_eq_true_eq, ne_eq, Bool.not_eq_true', beq_eq_false_iff_ne, bne_eq_false_iff_eq, decide_eq_false_iff_not, Decidable.not_not, Bool.or_eq_false_iff, Bool.and_eq_false_iff, Bool.not_eq_false']; omega) ?_)
        (first | refine Post.brT (by simp only [Bool.or_eq_true, Bool.and_eq_true, beq_iff_eq, bne_iff_ne, decide_eq_true_eq, ne_eq, Bool.not_eq_true', beq_eq_false_iff_ne, bne_eq_false_iff_eq, decide_eq_false_iff_not, Decidable.not_not, Bool.or_eq_false_iff, Bool.and_eq_false_iff, Bool.not_eq_false']; omega) ?_ | refine Post.brF (by simp only [Bool.or_eq_true, Bool.and_eq_true, beq_iff_eq, bne_iff_ne, decide_eq_true_eq, ne_eq, Bool.not_eq_true', beq_eq_false_iff_ne, bne_eq_false_iff_eq, decide_eq_false_iff_not, Decidable.not_not, Bool.or_eq_false_iff, Bool.and_eq_false_iff, Bool.not_eq_false']; omega) ?_)
        (first | refine Post.brT (by simp only [Bool.or_eq_true, Bool.and_eq_true, beq_iff_eq, bne_iff_ne, decide_eq_true_eq, ne_eq, Bool.not_eq_true', beq_eq_false_iff_ne, bne_eq_false_iff_eq, decide_eq_false_iff_not, Decidable.not_not, Bool.or_eq_false_iff, Bool.and_eq_false_iff, Bool.not_eq_false']; omega) ?_ | refine Post.brF (by simp only [Bool.or_eq_true, Bool.and_eq_true, beq_iff_eq, bne_iff_ne, decide_eq_true_eq, ne_eq, Bool.not_eq_true', beq_eq_false_iff_ne, bne_eq_false_iff_eq, decide_eq_false_iff_not, Decidable.not_not, Bool.or_eq_false_iff, Bool.and_eq_false_iff, Bool.not_eq_false']; omega) ?_)
        have hJ : Jst gr n g W = jst gr g ((W - sm g n) / (cnt gr n : Int)) ((W - sm g n) % (cnt gr n : Int)) := by unfold Jst; rw [if_neg (by omega)]
        have he0 : 0 ≤ (W - sm g n) / (cnt gr n : Int) := Int.ediv_nonneg (by omega) (by omega)
        have he1 : (W - sm g n) / (cnt gr n : Int) ≤ W - sm g n := Int.ediv_le_self _ (by omega)
        have hm0 : 0 ≤ (W - sm g n) % (cnt gr n : Int) := Int.emod_nonneg _ (by omega)
        have hm1 : (W - sm g n) % (cnt gr n : Int) < cnt gr n := Int.emod_lt_of_pos _ (by omega)
        rw [Int.tdiv_eq_ediv_of_nonneg (by omega), Int.tmod_eq_emod_of_nonneg (by omega), hJ, wrap64 (by omega) (by omega), tab_len]
        generalize (W - sm g n) / (cnt gr n : Int) = each at *
        generalize (W - sm g n) % (cnt gr n : Int) = more at *
        refine Post.bnd (count (L := fun s : List Bool × List Int × Int × Int × Int × Int => align_Justify_L14 s.1 s.2.1 s.2.2.1 s.2.2.2.1 s.2.2.2.2.1 s.2.2.2.2.2) n (fun k => (gr, tab n (part (jst gr g each more) g k), each, (if (cnt gr k : Int) < more then more - cnt gr k else 0), (n : Int), (k : Int))) (r := tab n (jst gr g each more)) ?_ (fun k hk => ?_) ?_) (Post.pure rfl)
        · rw [part_zero]
          simp [cnt]
          omega
        · dsimp only
          have h3 := h k
          have h4 := cnt_le gr k
          have e : jst gr g each more k = if may gr k = true then g k + each + (if (cnt gr k : Int) < more then 1 else 0) else g k := rfl
          unfold align_Justify_L14
          rw [wrap_succ (by omega), toNat_nat]
          (first | refine Post.brT (by simp only [Bool.or_eq_true, Bool.and_eq_true, beq_iff_eq, bne_iff_ne, decide_eq_true_eq, ne_eq, Bool.not_eq_true', beq_eq_false_iff_ne, bne_eq_false_iff_eq, decide_eq_false_iff_not, Decidable.not_not, Bool.or_eq_false_iff, Bool.and_eq_false_iff, Bool.not_eq_false']; omega) ?_ | refine Post.brF (by simp only [Bool.or_eq_true, Bool.and_eq_true, beq_iff_eq, bne_iff_ne, decide_eq_true_eq, ne_eq, Bool.not_eq_true', beq_eq_false_iff_ne, bne_eq_false_iff_eq, decide_eq_false_iff_not, Decidable.not_not, Bool.or_eq_false_iff, Bool.and_eq_false_iff, Bool.not_eq_false']; omega) ?_)
          refine Post.bnd (may_F gr k) (Post.br (fun hm => ?_) (fun hm => ?_))
          · have hm : may gr k = false := by simpa using hm
            rw [if_neg (by rw [hm]; simp)] at e
            have hc0 : cnt gr (k + 1) = cnt gr k := by
              show cnt gr k + (if may gr k = true then 1 else 0) = _
              rw [hm]
              rfl
            rw [hc0]
            exact Post.pure (by rw [← part_keep n e])
          · have hm : may gr k = true := by simpa using hm
            rw [if_pos hm] at e
            have hc1 : cnt gr (k + 1) = cnt gr k + 1 := by
              show cnt gr k + (if may gr k = true then 1 else 0) = _
              rw [if_pos hm]
            rw [hc1]
            refine ptab k rfl hk (ptab k rfl hk ?_)
            rw [part_at, wrap64 (n := g k + each) (by omega) (by omega)]
            by_cases hq : (cnt gr k : Int) < more
            · rw [if_pos hq] at e ⊢
              have i1 := fun v : Int => idx_set_at (xs := tab n (part (jst gr g each more) g k)) (i := (k : Int)) (v := v) (by omega) (by rw [tab_len]; omega)
              rw [toNat_nat] at i1
              (first | refine Post.brT (by simp only [Bool.or_eq_true, Bool.and_eq_true, beq_iff_eq, bne_iff_ne, decide_eq_true_eq, ne_eq, Bool.not_eq_true', beq_eq_false_iff_ne, bne_eq_false_iff_eq, decide_eq_false_iff_not, Decidable.not_not, Bool.or_eq_false_iff, Bool.and_eq_false_iff, Bool.not_eq_false']; omega) ?_ | refine Post.brF (by simp only [Bool.or_eq_true, Bool.and_eq_true, beq_iff_eq, bne_iff_ne, decide_eq_true_eq, ne_eq, Bool.not_eq_true', beq_eq_false_iff_ne, bne_eq_false_iff_eq, decide_eq_false_iff_not, Decidable.not_not, Bool.or_eq_false_iff, Bool.and_eq_false_iff, Bool.not_eq_false']; omega) ?_)
              refine Post.bnd (i1 _) (Post.bnd (i1 _) (Post.pure ?_))
              rw [List.set_set, wrap64 (by omega) (by omega), wrap64 (by omega) (by omega), part_set n e]
              by_cases hq2 : ((cnt gr k + 1 : Nat) : Int) < more
              · rw [if_pos hq2]
                congr 5
                omega
              · rw [if_neg hq2]
                congr 5
                omega
            · rw [if_neg hq] at e ⊢
              rw [if_neg (by omega)]
              (first | refine Post.brT (by simp only [Bool.or_eq_true, Bool.and_eq_true, beq_iff_eq, bne_iff_ne, decide_eq_true_eq, ne_eq, Bool.not_eq_true', beq_eq_false_iff_ne, bne_eq_false_iff_eq, decide_eq_false_iff_not, Decidable.not_not, Bool.or_eq_false_iff, Bool.and_eq_false_iff, Bool.not_eq_false']; omega) ?_ | refine Post.brF (by simp only [Bool.or_eq_true, Bool.and_eq_true, beq_iff_eq, bne_iff_ne, decide_eq_true_eq, ne_eq, Bool.not_eq_true', beq_eq_false_iff_ne, bne_eq_false_iff_eq, decide_eq_false_iff_not, Decidable.not_not, Bool.or_eq_false_iff, Bool.and_eq_false_iff, Bool.not_eq_false']; omega) ?_)
              exact Post.pure (by rw [part_set n (by rw [e]; omega)])
        · dsimp only
          unfold align_Justify_L14
          (first | refine Post.brT (by simp only [Bool.or_eq_true, Bool.and_eq_true, beq_iff_eq, bne_iff_ne, decide_eq_true_eq, ne_eq, Bool.not_eq_true', beq_eq_false_iff_ne, bne_eq_false_iff_eq, decide_eq_false_iff_not, Decidable.not_not, Bool.or_eq_false_iff, Bool.and_eq_false_iff, Bool.not_eq_false']; omega) ?_ | refine Post.brF (by simp only [Bool.or_eq_true, Bool.and_eq_true, beq_iff_eq, bne_iff_ne, decide_eq_true_eq, ne_eq, Bool.not_eq_true', beq_eq_false_iff_ne, bne_eq_false_iff_eq, decide_eq_false_iff_not, Decidable.not_not, Bool.or_eq_false_iff, Bool.and_eq_false_iff, Bool.not_eq_false']; omega) ?_)
          exact Post.pure (by rw [part_end])

theorem jst_sum (gr : List Bool) (g : Nat → Int) (each more : Int) (hm : 0 ≤ more) : ∀ k, sm (jst gr g each more) k = sm g k + cnt gr k * each + (if (cnt gr k : Int) < more then (cnt gr k : Int) else more)
  | 0 => by
    show (0 : Int) = 0 + ((0 : Nat) : Int) * each + (if ((0 : Nat) : Int) < more then ((0 : Nat) : Int) else more)
    rw [show ((0 : Nat) : Int) = 0 from rfl, Int.zero_mul]
    split <;> omega
  | k + 1 => by
    have ih := jst_sum gr g each more hm k
    show sm (jst gr g each more) k + jst gr g each more k = (sm g k + g k) + ((cnt gr k + if may gr k = true then 1 else 0 : Nat) : Int) * each + _
    rw [ih]
    unfold jst
    by_cases h : may gr k = true
    · simp only [if_pos h, Int.natCast_add, Int.add_mul, cnt]
      generalize (cnt gr k : Int) * each = q
      generalize cnt gr k = c
      split <;> split <;> simp at * <;> omega
    · simp only [if_neg h, cnt, Nat.add_zero]
      omega
theorem Jst_sum (gr : List Bool) (n : Nat) (g : Nat → Int) (W : Int) (h : ¬ (W - sm g n ≤ 0 ∨ cnt gr n = 0)) : sm (Jst gr n g W) n = W := by
  unfold Jst
  rw [if_neg h]
  have h1 : (0 : Int) < cnt gr n := by omega
  rw [jst_sum _ _ _ _ (Int.emod_nonneg _ (by omega)), if_neg (by have := Int.emod_lt_of_pos (W - sm g n) h1; omega)]
  have := Int.mul_ediv_add_emod (W - sm g n) (cnt gr n : Int)
  omega
theorem jst_range (gr : List Bool) (g : Nat → Int) (each more : Int) (h : ∀ i, 0 ≤ g i ∧ g i ≤ 2) (h0 : 0 ≤ each) (h1 : each ≤ 900) (i : Nat) : 0 ≤ jst gr g each more i ∧ jst gr g each more i ≤ 1000 := by
  have := h i
  unfold jst
  repeat' split
  all_goals omega
theorem Jst_range (gr : List Bool) (n : Nat) (g : Nat → Int) (W : Int) (h : ∀ i, 0 ≤ g i ∧ g i ≤ 2) (hW : W ≤ 900) (i : Nat) : 0 ≤ Jst gr n g W i ∧ Jst gr n g W i ≤ 1000 := by
  have hg := h i
  unfold Jst
  by_cases hc : W - sm g n ≤ 0 ∨ cnt gr n = 0
  · rw [if_pos hc]; omega
  · rw [if_neg hc]
    have hs := sm_range (g := g) (fun i => by have := h i; omega) n
    have he1 : (W - sm g n) / (cnt gr n : Int) ≤ W - sm g n := Int.ediv_le_self _ (by omega)
    exact jst_range gr g _ _ h (Int.ediv_nonneg (by omega) (by omega)) (by omega) i

theorem widths_F (ns : List Int) (hn : ns.length ≤ 2097152) (h8 : ∀ n ∈ ns, 0 ≤ n ∧ n ≤ 255) : law22_Widths_F ns = some (tab ns.length fun i => (ns.getD i 0) % 3) := by
  unfold law22_Widths_F law22_Widths_T
  refine Post.run (Post.bnd (count (L := fun s : List Int × List Int × Int => law22_Widths_L3 s.1 s.2.1 s.2.2) ns.length (fun k => (ns, tab k fun i => (ns.getD i 0) % 3, (k : Int))) rfl (fun k hk => ?_) ?_) (Post.pure rfl))
  · dsimp only
    have hm : 0 ≤ ns.getD k 0 ∧ ns.getD k 0 ≤ 255 := h8 _ (by simp [List.getD, hk])
    unfold law22_Widths_L3
    refine Post.brT (by rw [decide_eq_true_eq]; omega) (Post.idx 0 k rfl hk ?_)
    rw [Int.tmod_eq_emod_of_nonneg hm.1, wrap64 (by omega) (by omega), wrap_succ (by omega)]
    exact Post.bnd (app_eq (by rw [tab_len]; simp; omega)) (Post.pure (by rw [← tab_succ]))
  · dsimp only
    unfold law22_Widths_L3
    exact Post.brF (by simp) (Post.pure rfl)

/-! ### how many cells stay free -/
theorem indent_F (c w s l : Int) (hc : 0 ≤ c ∧ c ≤ 65535) (hw : 0 ≤ w ∧ w ≤ 65535) (hl : 0 ≤ l) (hs : 0 ≤ s ∧ s ≤ 4) : align_Indent_F c w s l = some ((if s = 0 then (if l % 2 = 0 then 0 else max 0 (w - c)) else if s = 3 then max 0 (w - c) else if s = 1 then (if l % 2 = 0 then max 0 (w - c) else 0) else if s = 2 then 0 else
    if l % 2 = 0 then max 0 (w - c) / 2 else max 0 (w - c) - max 0 (w - c) / 2), none) := by
  unfold align_Indent_F align_Indent_T
  have hf : (if 0 > (IntKind.i64.wrap (w - c)) then 0 else (IntKind.i64.wrap (w - c))) = max 0 (w - c) := by
    rw [wrap64 (by omega) (by omega)]
    split <;> omega
  have hm : l.tmod 2 = l % 2 := Int.tmod_eq_emod_of_nonneg hl
  have hd : (max 0 (w - c)).tdiv 2 = max 0 (w - c) / 2 := Int.tdiv_eq_ediv_of_nonneg (by omega)
  rw [hf, hm, hd, wrap64 (n := max 0 (w - c) / 2) (by omega) (by omega), wrap64 (by omega) (by omega)]
  refine Post.run ?_
  by_cases e : l % 2 = 0
  · have : s = 0 ∨ s = 1 ∨ s = 2 ∨ s = 3 ∨ s = 4 := by omega
    rcases this with rfl | rfl | rfl | rfl | rfl <;> simp only [e]
    · exact Post.brT rfl (Post.brT rfl (Post.pure rfl))
    · exact Post.brF rfl (Post.brF rfl (Post.brT rfl (Post.brT rfl (Post.pure rfl))))
    · exact Post.brF rfl (Post.brF rfl (Post.brF rfl (Post.brT rfl (Post.pure rfl))))
    · exact Post.brF rfl (Post.brT rfl (Post.pure rfl))
    · exact Post.brF rfl (Post.brF rfl (Post.brF rfl (Post.brF rfl (Post.brT rfl (Post.brF rfl (Post.pure rfl))))))
  · have e : l % 2 = 1 := by omega
    have : s = 0 ∨ s = 1 ∨ s = 2 ∨ s = 3 ∨ s = 4 := by omega
    rcases this with rfl | rfl | rfl | rfl | rfl <;> simp only [e]
    · exact Post.brT rfl (Post.brF rfl (Post.pure rfl))
    · exact Post.brF rfl (Post.brF rfl (Post.brT rfl (Post.brF rfl (Post.pure rfl))))
    · exact Post.brF rfl (Post.brF rfl (Post.brF rfl (Post.brT rfl (Post.pure rfl))))
    · exact Post.brF rfl (Post.brT rfl (Post.pure rfl))
    · exact Post.brF rfl (Post.brF rfl (Post.brF rfl (Post.brF rfl (Post.brT rfl (Post.brT rfl (Post.pure rfl))))))

theorem awake34 : law34_awake_F = some true := by
  unfold law34_awake_F law34_awake_T
  have hj := justify_F [false, true, false, true] 4 (fun _ => 1) 9 (by omega) (fun _ => by omega) (by omega)
  refine Post.run (Post.bnd (indent_F 3 10 4 0 (by omega) (by omega) (by omega) (by omega)) (Post.bnd (indent_F 3 10 4 1 (by omega) (by omega) (by omega) (by omega)) (Post.bnd (indent_F 3 10 1 1 (by omega) (by omega) (by omega) (by omega)) (Post.bnd hj ?_))))
  refine Post.brT rfl (Post.brT rfl (Post.brT rfl (Post.brT rfl (Post.brT rfl (Post.brT rfl (Post.bnd (show law25_Same_F _ [1, 4, 1, 3] = some true from same_F [1, 4, 1, 3] (by simp)) (Post.pure rfl)))))))

theorem alignBoth_F (c w l : Int) (hc : 0 ≤ c ∧ c ≤ 65535) (hw : 0 ≤ w ∧ w ≤ 65535) (hl : 0 ≤ l ∧ l ≤ 255) : law34_AlignBoth_F c w l = some true := by
  unfold law34_AlignBoth_F law34_AlignBoth_T
  rw [wrap64 (n := c) (by omega) (by omega), wrap64 (n := w) (by omega) (by omega), wrap64 (n := l) (by omega) (by omega), wrap64 (n := w - c) (by omega) (by omega), wrap64 (n := l + 1) (by omega) (by omega), Int.tmod_eq_emod_of_nonneg hl.1]
  have hf : (if w - c > 0 then w - c else 0) = max 0 (w - c) := by split <;> omega
  rw [hf]
  refine Post.run (Post.bnd awake34 (Post.brF rfl (Post.bnd (indent_F c w 0 l hc hw hl.1 (by omega)) (Post.bnd (indent_F c w 1 l hc hw hl.1 (by omega)) (Post.bnd (indent_F c w 2 l hc hw hl.1 (by omega)) (Post.bnd (indent_F c w 3 l hc hw hl.1 (by omega)) (Post.bnd (indent_F c w 4 l hc hw hl.1 (by omega)) (Post.bnd (indent_F c w 4 (l + 1) hc hw (by omega) (by omega)) ?_))))))))
  generalize hfr : max 0 (w - c) = free at *
  by_cases e : l % 2 = 0
  · have e2 : ¬ (l + 1) % 2 = 0 := by omega
    simp [e, e2]
    repeat rw [wrap64 (by omega) (by omega)]
    repeat' (first | (first | refine Post.brT (by simp only [Bool.or_eq_true, Bool.and_eq_true, beq_iff_eq, bne_iff_ne, decide_eq_true_eq, ne_eq, Bool.not_eq_true', beq_eq_false_iff_ne, bne_eq_false_iff_eq, decide_eq_false_iff_not, Decidable.not_not, Bool.or_eq_false_iff, Bool.and_eq_false_iff, Bool.not_eq_false']; omega) ?_ | refine Post.brF (by simp only [Bool.or_eq_true, Bool.and_eq_true, beq_iff_eq, bne_iff_ne, decide_eq_true_eq, ne_eq, Bool.not_eq_true', beq_eq_false_iff_ne, bne_eq_false_iff_eq, decide_eq_false_iff_not, Decidable.not_not, Bool.or_eq_false_iff, Bool.and_eq_false_iff, Bool.not_eq_false']; omega) ?_) | exact Post.pure rfl | refine Post.brT (by simp) ?_ | refine Post.brF (by simp) ?_)
  · have e2 : (l + 1) % 2 = 0 := by omega
    have e1 : l % 2 = 1 := by omega
    simp [e1, e2]
    repeat rw [wrap64 (by omega) (by omega)]
    repeat' (first | (first | refine Post.brT (by simp only [Bool.or_eq_true, Bool.and_eq_true, beq_iff_eq, bne_iff_ne, decide_eq_true_eq, ne_eq, Bool.not_eq_true', beq_eq_false_iff_ne, bne_eq_false_iff_eq, decide_eq_false_iff_not, Decidable.not_not, Bool.or_eq_false_iff, Bool.and_eq_false_iff, Bool.not_eq_false']; omega) ?_ | refine Post.brF (by simp only [Bool.or_eq_true, Bool.and_eq_true, beq_iff_eq, bne_iff_ne, decide_eq_true_eq, ne_eq, Bool.not_eq_true', beq_eq_false_iff_ne, bne_eq_false_iff_eq, decide_eq_false_iff_not, Decidable.not_not, Bool.or_eq_false_iff, Bool.and_eq_false_iff, Bool.not_eq_false']; omega) ?_) | exact Post.pure rfl | exact Post.pure (by simp) | refine Post.brT (by simp) ?_ | refine Post.brF (by simp) ?_ | (refine Post.br (fun _ => ?_) (fun _ => ?_)))
theorem alignBoth_all (x : Tys.I [.int .u16, .int .u16, .int .u8]) (h : WfAll [.int .u16, .int .u16, .int .u8] x) : law34_AlignBoth_F x.1 x.2.1 x.2.2.1 = some true :=
  alignBoth_F _ _ _ (wf_u16 h.1) (wf_u16 h.2.1) (wf_u8 h.2.2.1)

def Rw (g : Nat → Int) : Prop := ∀ i, 0 ≤ g i ∧ g i ≤ 2
theorem rw_mod (ws : List Int) : Rw fun i => (ws.getD i 0) % 3 := fun i => by dsimp only; omega

theorem alignTwice_F (ws : List Int) (gr : List Bool) (W : Int) (hn : ws.length ≤ 2097152) (h8 : ∀ n ∈ ws, 0 ≤ n ∧ n ≤ 255) (hW : 0 ≤ W ∧ W ≤ 255) : law34_AlignTwice_F ws gr W = some true := by
  unfold law34_AlignTwice_F law34_AlignTwice_T
  have hws := widths_F ws hn h8
  have hg := rw_mod ws
  generalize (fun i => (ws.getD i 0) % 3) = g at hws hg
  generalize ws.length = n at *
  rw [wrap64 (n := W) (by omega) (by omega)]
  have hs := sm_range (g := g) (fun i => by have := hg i; omega) n
  have hJ := justify_F gr n g W (by omega) (fun i => by have := hg i; omega) (by omega)
  have hr := Jst_range gr n g W hg (by omega)
  have hJ2 : align_Justify_F (tab n (Jst gr n g W)) gr W = some (tab n (Jst gr n g W)) := by
    rw [justify_F gr n _ W (by omega) hr (by omega)]
    by_cases hc : W - sm g n ≤ 0 ∨ cnt gr n = 0
    · have e : Jst gr n g W = g := if_pos hc
      rw [e, e]
    · have e := Jst_sum gr n g W hc
      rw [show Jst gr n (Jst gr n g W) W = Jst gr n g W from if_pos (.inl (by omega))]
  have hJ3 := justify_F gr n g (sm g n - W) (by omega) (fun i => by have := hg i; omega) (by omega)
  rw [show Jst gr n g (sm g n - W) = g from if_pos (.inl (by omega))] at hJ3
  refine Post.run (Post.bnd awake34 (Post.brF rfl (Post.bnd hws (Post.bnd hJ (Post.bnd hJ2 (Post.bnd (same_F _ (by rw [tab_len]; omega)) (Post.brT rfl (Post.bnd (sum_F n g (by omega) (fun i => by have := hg i; omega)) ?_))))))))
  rw [wrap64 (by omega) (by omega)]
  exact Post.bnd hJ3 (Post.bnd (same_F _ (by rw [tab_len]; omega)) (Post.pure rfl))

theorem alignTwice_all (x : Tys.I [.sl (.int .u8), .sl .bool, .int .u8]) (h : WfAll [.sl (.int .u8), .sl .bool, .int .u8] x) (hb : bulkAll [.sl (.int .u8), .sl .bool, .int .u8] x ≤ 1048576) : law34_AlignTwice_F x.1 x.2.1 x.2.2.1 = some true := by
  simp only [bulkAll, bulk] at hb
  exact alignTwice_F _ _ _ (by omega) (fun n hn => wf_u8 (h.1.2 n hn)) (wf_u8 h.2.2.1)

theorem alignJustify_F (ws : List Int) (gr : List Bool) (W : Int) (hn : ws.length ≤ 2097152) (h8 : ∀ n ∈ ws, 0 ≤ n ∧ n ≤ 255) (hW : 0 ≤ W ∧ W ≤ 255) : law34_AlignJustify_F ws gr W = some true := by
  unfold law34_AlignJustify_F law34_AlignJustify_T
  have hws := widths_F ws hn h8
  have hg := rw_mod ws
  generalize (fun i => (ws.getD i 0) % 3) = g at hws hg
  generalize ws.length = n at *
  rw [wrap64 (n := W) (by omega) (by omega)]
  have hs := sm_range (g := g) (fun i => by have := hg i; omega) n
  have hJ := justify_F gr n g W (by omega) (fun i => by have := hg i; omega) (by omega)
  have hr := Jst_range gr n g W hg (by omega)
  have hcn := cnt_le gr n
  refine Post.run (Post.bnd awake34 (Post.brF rfl (Post.bnd hws (Post.bnd hJ ?_))))
  rw [tab_len]
  refine Post.bnd (count (L := fun s : List Bool × List Int × Int × List Int × Int × Int × Int => law34_AlignJustify_L8 s.1 s.2.1 s.2.2.1 s.2.2.2.1 s.2.2.2.2.1 s.2.2.2.2.2.1 s.2.2.2.2.2.2) n (fun k => (gr, tab n g, W, tab n (Jst gr n g W), (cnt gr k : Int), (n : Int), (k : Int))) (r := (gr, tab n g, W, tab n (Jst gr n g W), (cnt gr n : Int))) rfl (fun k hk => ?_) ?_) ?_
  · dsimp only
    have h3 := cnt_le gr k
    unfold law34_AlignJustify_L8
    rw [wrap_succ (k := k) (by omega), cnt_succ]
    (first | refine Post.brT (by simp only [Bool.or_eq_true, Bool.and_eq_true, beq_iff_eq, bne_iff_ne, decide_eq_true_eq, ne_eq, Bool.not_eq_true', beq_eq_false_iff_ne, bne_eq_false_iff_eq, decide_eq_false_iff_not, Decidable.not_not, Bool.or_eq_false_iff, Bool.and_eq_false_iff, Bool.not_eq_false']; omega) ?_ | refine Post.brF (by simp only [Bool.or_eq_true, Bool.and_eq_true, beq_iff_eq, bne_iff_ne, decide_eq_true_eq, ne_eq, Bool.not_eq_true', beq_eq_false_iff_ne, bne_eq_false_iff_eq, decide_eq_false_iff_not, Decidable.not_not, Bool.or_eq_false_iff, Bool.and_eq_false_iff, Bool.not_eq_false']; omega) ?_)
    by_cases hlt : k < gr.length
    · (first | refine Post.brT (by simp only [Bool.or_eq_true, Bool.and_eq_true, beq_iff_eq, bne_iff_ne, decide_eq_true_eq, ne_eq, Bool.not_eq_true', beq_eq_false_iff_ne, bne_eq_false_iff_eq, decide_eq_false_iff_not, Decidable.not_not, Bool.or_eq_false_iff, Bool.and_eq_false_iff, Bool.not_eq_false']; omega) ?_ | refine Post.brF (by simp only [Bool.or_eq_true, Bool.and_eq_true, beq_iff_eq, bne_iff_ne, decide_eq_true_eq, ne_eq, Bool.not_eq_true', beq_eq_false_iff_ne, bne_eq_false_iff_eq, decide_eq_false_iff_not, Decidable.not_not, Bool.or_eq_false_iff, Bool.and_eq_false_iff, Bool.not_eq_false']; omega) ?_)
      refine Post.idx false k rfl hlt (Post.br (fun hm => ?_) (fun hm => ?_))
      · rw [if_pos (show may gr k = true from hm)]
        exact Post.pure (by rw [wrap_succ (k := cnt gr k) (by omega)])
      · rw [if_neg (show ¬ may gr k = true by unfold may; rw [hm]; simp)]
        exact Post.pure rfl
    · (first | refine Post.brT (by simp only [Bool.or_eq_true, Bool.and_eq_true, beq_iff_eq, bne_iff_ne, decide_eq_true_eq, ne_eq, Bool.not_eq_true', beq_eq_false_iff_ne, bne_eq_false_iff_eq, decide_eq_false_iff_not, Decidable.not_not, Bool.or_eq_false_iff, Bool.and_eq_false_iff, Bool.not_eq_false']; omega) ?_ | refine Post.brF (by simp only [Bool.or_eq_true, Bool.and_eq_true, beq_iff_eq, bne_iff_ne, decide_eq_true_eq, ne_eq, Bool.not_eq_true', beq_eq_false_iff_ne, bne_eq_false_iff_eq, decide_eq_false_iff_not, Decidable.not_not, Bool.or_eq_false_iff, Bool.and_eq_false_iff, Bool.not_eq_false']; omega) ?_)
      rw [if_neg (show ¬ may gr k = true by unfold may; rw [getD_len (by omega)]; simp)]
      exact Post.pure rfl
  · dsimp only
    unfold law34_AlignJustify_L8
    (first | refine Post.brT (by simp only [Bool.or_eq_true, Bool.and_eq_true, beq_iff_eq, bne_iff_ne, decide_eq_true_eq, ne_eq, Bool.not_eq_true', beq_eq_false_iff_ne, bne_eq_false_iff_eq, decide_eq_false_iff_not, Decidable.not_not, Bool.or_eq_false_iff, Bool.and_eq_false_iff, Bool.not_eq_false']; omega) ?_ | refine Post.brF (by simp only [Bool.or_eq_true, Bool.and_eq_true, beq_iff_eq, bne_iff_ne, decide_eq_true_eq, ne_eq, Bool.not_eq_true', beq_eq_false_iff_ne, bne_eq_false_iff_eq, decide_eq_false_iff_not, Decidable.not_not, Bool.or_eq_false_iff, Bool.and_eq_false_iff, Bool.not_eq_false']; omega) ?_)
    exact Post.pure rfl
  · dsimp only
    refine Post.bnd (sum_F n g (by omega) (fun i => by have := hg i; omega)) ?_
    rw [tab_len, tab_len, wrap64 (n := W - sm g n) (by omega) (by omega)]
    refine Post.brF (by simp) ?_
    by_cases hc : W - sm g n ≤ 0 ∨ cnt gr n = 0
    · have e : Jst gr n g W = g := if_pos hc
      rw [e]
      by_cases h1 : W - sm g n ≤ 0
      · (first | refine Post.brT (by simp only [Bool.or_eq_true, Bool.and_eq_true, beq_iff_eq, bne_iff_ne, decide_eq_true_eq, ne_eq, Bool.not_eq_true', beq_eq_false_iff_ne, bne_eq_false_iff_eq, decide_eq_false_iff_not, Decidable.not_not, Bool.or_eq_false_iff, Bool.and_eq_false_iff, Bool.not_eq_false']; omega) ?_ | refine Post.brF (by simp only [Bool.or_eq_true, Bool.and_eq_true, beq_iff_eq, bne_iff_ne, decide_eq_true_eq, ne_eq, Bool.not_eq_true', beq_eq_false_iff_ne, bne_eq_false_iff_eq, decide_eq_false_iff_not, Decidable.not_not, Bool.or_eq_false_iff, Bool.and_eq_false_iff, Bool.not_eq_false']; omega) ?_)
        exact Post.bnd (same_F _ (by rw [tab_len]; omega)) (Post.pure rfl)
      · (first | refine Post.brT (by simp only [Bool.or_eq_true, Bool.and_eq_true, beq_iff_eq, bne_iff_ne, decide_eq_true_eq, ne_eq, Bool.not_eq_true', beq_eq_false_iff_ne, bne_eq_false_iff_eq, decide_eq_false_iff_not, Decidable.not_not, Bool.or_eq_false_iff, Bool.and_eq_false_iff, Bool.not_eq_false']; omega) ?_ | refine Post.brF (by simp only [Bool.or_eq_true, Bool.and_eq_true, beq_iff_eq, bne_iff_ne, decide_eq_true_eq, ne_eq, Bool.not_eq_true', beq_eq_false_iff_ne, bne_eq_false_iff_eq, decide_eq_false_iff_not, Decidable.not_not, Bool.or_eq_false_iff, Bool.and_eq_false_iff, Bool.not_eq_false']; omega) ?_)
        (first | refine Post.brT (by simp only [Bool.or_eq_true, Bool.and_eq_true, beq_iff_eq, bne_iff_ne, decide_eq_true_eq, ne_eq, Bool.not_eq_true', beq_eq_false_iff_ne, bne_eq_false_iff_eq, decide_eq_false_iff_not, Decidable.not_not, Bool.or_eq_false_iff, Bool.and_eq_false_iff, Bool.not_eq_false']; omega) ?_ | refine Post.brF (by simp only [Bool.or_eq_true, Bool.and_eq_true, beq_iff_eq, bne_iff_ne, decide_eq_true_eq, ne_eq, Bool.not_eq_true', beq_eq_false_iff_ne, bne_eq_false_iff_eq, decide_eq_false_iff_not, Decidable.not_not, Bool.or_eq_false_iff, Bool.and_eq_false_iff, Bool.not_eq_false']; omega) ?_)
        exact Post.bnd (same_F _ (by rw [tab_len]; omega)) (Post.pure rfl)
    · (first | refine Post.brT (by simp only [Bool.or_eq_true, Bool.and_eq_true, beq_iff_eq, bne_iff_ne, decide_eq_true_eq, ne_eq, Bool.not_eq_true', beq_eq_false_iff_ne, bne_eq_false_iff_eq, decide_eq_false_iff_not, Decidable.not_not, Bool.or_eq_false_iff, Bool.and_eq_false_iff, Bool.not_eq_false']; omega) ?_ | refine Post.brF (by simp only [Bool.or_eq_true, Bool.and_eq_true, beq_iff_eq, bne_iff_ne, decide_eq_true_eq, ne_eq, Bool.not_eq_true', beq_eq_false_iff_ne, bne_eq_false_iff_eq, decide_eq_false_iff_not, Decidable.not_not, Bool.or_eq_false_iff, Bool.and_eq_false_iff, Bool.not_eq_false']; omega) ?_)
      (first | refine Post.brT (by simp only [Bool.or_eq_true, Bool.and_eq_true, beq_iff_eq, bne_iff_ne, decide_eq_true_eq, ne_eq, Bool.not_eq_true', beq_eq_false_iff_ne, bne_eq_false_iff_eq, decide_eq_false_iff_not, Decidable.not_not, Bool.or_eq_false_iff, Bool.and_eq_false_iff, Bool.not_eq_false']; omega) ?_ | refine Post.brF (by simp only [Bool.or_eq_true, Bool.and_eq_true, beq_iff_eq, bne_iff_ne, decide_eq_true_eq, ne_eq, Bool.not_eq_true', beq_eq_false_iff_ne, bne_eq_false_iff_eq, decide_eq_false_iff_not, Decidable.not_not, Bool.or_eq_false_iff, Bool.and_eq_false_iff, Bool.not_eq_false']; omega) ?_)
      have hsum := Jst_sum gr n g W hc
      have hJd : Jst gr n g W = jst gr g ((W - sm g n) / (cnt gr n : Int)) ((W - sm g n) % (cnt gr n : Int)) := if_neg hc
      have ht1 : (W - sm g n).tdiv (cnt gr n : Int) = (W - sm g n) / (cnt gr n : Int) := Int.tdiv_eq_ediv_of_nonneg (by omega)
      have ht2 : (W - sm g n).tmod (cnt gr n : Int) = (W - sm g n) % (cnt gr n : Int) := Int.tmod_eq_emod_of_nonneg (by omega)
      have he0 : 0 ≤ (W - sm g n) / (cnt gr n : Int) := Int.ediv_nonneg (by omega) (by omega)
      have he1 : (W - sm g n) / (cnt gr n : Int) ≤ W - sm g n := Int.ediv_le_self _ (by omega)
      refine Post.altL (b := (W, tab n (Jst gr n g W))) (count (L := fun s : List Bool × List Int × Int × List Int × Int × Int × Int × Int × Int => law34_AlignJustify_L20 s.1 s.2.1 s.2.2.1 s.2.2.2.1 s.2.2.2.2.1 s.2.2.2.2.2.1 s.2.2.2.2.2.2.1 s.2.2.2.2.2.2.2.1 s.2.2.2.2.2.2.2.2) n (fun k => (gr, tab n g, W, tab n (Jst gr n g W), (cnt gr n : Int), W - sm g n, (cnt gr k : Int), (n : Int), (k : Int))) rfl (fun k hk => ?_) ?_) ?_
      · dsimp only
        have h3 := cnt_le gr k
        have hgk := hg k
        have hJk : Jst gr n g W k = if may gr k = true then g k + (W - sm g n) / (cnt gr n : Int) + (if (cnt gr k : Int) < (W - sm g n) % (cnt gr n : Int) then 1 else 0) else g k := by rw [hJd]; rfl
        unfold law34_AlignJustify_L20
        rw [wrap_succ (k := k) (by omega), wrap_succ (k := cnt gr k) (by omega), cnt_succ, ht1, ht2, wrap64 (n := (W - sm g n) / (cnt gr n : Int)) (by omega) (by omega)]
        generalize (W - sm g n) / (cnt gr n : Int) = each at *
        generalize (W - sm g n) % (cnt gr n : Int) = more at *
        (first | refine Post.brT (by simp only [Bool.or_eq_true, Bool.and_eq_true, beq_iff_eq, bne_iff_ne, decide_eq_true_eq, ne_eq, Bool.not_eq_true', beq_eq_false_iff_ne, bne_eq_false_iff_eq, decide_eq_false_iff_not, Decidable.not_not, Bool.or_eq_false_iff, Bool.and_eq_false_iff, Bool.not_eq_false']; omega) ?_ | refine Post.brF (by simp only [Bool.or_eq_true, Bool.and_eq_true, beq_iff_eq, bne_iff_ne, decide_eq_true_eq, ne_eq, Bool.not_eq_true', beq_eq_false_iff_ne, bne_eq_false_iff_eq, decide_eq_false_iff_not, Decidable.not_not, Bool.or_eq_false_iff, Bool.and_eq_false_iff, Bool.not_eq_false']; omega) ?_)
        (first | refine ptab _ rfl (by omega) ?_ | refine Post.bnd (idx_set_at (by omega) (by simp only [List.length_set, tab_len]; omega)) ?_)
        by_cases hm : may gr k = true
        · have hlt : k < gr.length := by
            rcases Nat.lt_or_ge k gr.length with h | h
            · exact h
            · unfold may at hm; rw [getD_len h] at hm; cases hm
          rw [if_pos hm] at hJk ⊢
          (first | refine Post.brT (by simp only [Bool.or_eq_true, Bool.and_eq_true, beq_iff_eq, bne_iff_ne, decide_eq_true_eq, ne_eq, Bool.not_eq_true', beq_eq_false_iff_ne, bne_eq_false_iff_eq, decide_eq_false_iff_not, Decidable.not_not, Bool.or_eq_false_iff, Bool.and_eq_false_iff, Bool.not_eq_false']; omega) ?_ | refine Post.brF (by simp only [Bool.or_eq_true, Bool.and_eq_true, beq_iff_eq, bne_iff_ne, decide_eq_true_eq, ne_eq, Bool.not_eq_true', beq_eq_false_iff_ne, bne_eq_false_iff_eq, decide_eq_false_iff_not, Decidable.not_not, Bool.or_eq_false_iff, Bool.and_eq_false_iff, Bool.not_eq_false']; omega) ?_)
          refine Post.idx false k rfl hlt (Post.brT hm ?_)
          (first | refine Post.brT (by simp only [Bool.or_eq_true, Bool.and_eq_true, beq_iff_eq, bne_iff_ne, decide_eq_true_eq, ne_eq, Bool.not_eq_true', beq_eq_false_iff_ne, bne_eq_false_iff_eq, decide_eq_false_iff_not, Decidable.not_not, Bool.or_eq_false_iff, Bool.and_eq_false_iff, Bool.not_eq_false']; omega) ?_ | refine Post.brF (by simp only [Bool.or_eq_true, Bool.and_eq_true, beq_iff_eq, bne_iff_ne, decide_eq_true_eq, ne_eq, Bool.not_eq_true', beq_eq_false_iff_ne, bne_eq_false_iff_eq, decide_eq_false_iff_not, Decidable.not_not, Bool.or_eq_false_iff, Bool.and_eq_false_iff, Bool.not_eq_false']; omega) ?_)
          (first | refine Post.brT (by simp only [Bool.or_eq_true, Bool.and_eq_true, beq_iff_eq, bne_iff_ne, decide_eq_true_eq, ne_eq, Bool.not_eq_true', beq_eq_false_iff_ne, bne_eq_false_iff_eq, decide_eq_false_iff_not, Decidable.not_not, Bool.or_eq_false_iff, Bool.and_eq_false_iff, Bool.not_eq_false']; omega) ?_ | refine Post.brF (by simp only [Bool.or_eq_true, Bool.and_eq_true, beq_iff_eq, bne_iff_ne, decide_eq_true_eq, ne_eq, Bool.not_eq_true', beq_eq_false_iff_ne, bne_eq_false_iff_eq, decide_eq_false_iff_not, Decidable.not_not, Bool.or_eq_false_iff, Bool.and_eq_false_iff, Bool.not_eq_false']; omega) ?_)
          rw [wrap64 (n := g k + each) (by omega) (by omega), wrap64 (n := g k + each + 1) (by omega) (by omega)]
          by_cases hq : (cnt gr k : Int) < more
          · rw [if_pos hq] at hJk
            (first | refine Post.brT (by simp only [Bool.or_eq_true, Bool.and_eq_true, beq_iff_eq, bne_iff_ne, decide_eq_true_eq, ne_eq, Bool.not_eq_true', beq_eq_false_iff_ne, bne_eq_false_iff_eq, decide_eq_false_iff_not, Decidable.not_not, Bool.or_eq_false_iff, Bool.and_eq_false_iff, Bool.not_eq_false']; omega) ?_ | refine Post.brF (by simp only [Bool.or_eq_true, Bool.and_eq_true, beq_iff_eq, bne_iff_ne, decide_eq_true_eq, ne_eq, Bool.not_eq_true', beq_eq_false_iff_ne, bne_eq_false_iff_eq, decide_eq_false_iff_not, Decidable.not_not, Bool.or_eq_false_iff, Bool.and_eq_false_iff, Bool.not_eq_false']; omega) ?_)
            (first | refine ptab _ rfl (by omega) ?_ | refine Post.bnd (idx_set_at (by omega) (by simp only [List.length_set, tab_len]; omega)) ?_)
            (first | refine Post.brT (by simp only [Bool.or_eq_true, Bool.and_eq_true, beq_iff_eq, bne_iff_ne, decide_eq_true_eq, ne_eq, Bool.not_eq_true', beq_eq_false_iff_ne, bne_eq_false_iff_eq, decide_eq_false_iff_not, Decidable.not_not, Bool.or_eq_false_iff, Bool.and_eq_false_iff, Bool.not_eq_false']; omega) ?_ | refine Post.brF (by simp only [Bool.or_eq_true, Bool.and_eq_true, beq_iff_eq, bne_iff_ne, decide_eq_true_eq, ne_eq, Bool.not_eq_true', beq_eq_false_iff_ne, bne_eq_false_iff_eq, decide_eq_false_iff_not, Decidable.not_not, Bool.or_eq_false_iff, Bool.and_eq_false_iff, Bool.not_eq_false']; omega) ?_)
            exact Post.pure rfl
          · rw [if_neg hq] at hJk
            (first | refine Post.brT (by simp only [Bool.or_eq_true, Bool.and_eq_true, beq_iff_eq, bne_iff_ne, decide_eq_true_eq, ne_eq, Bool.not_eq_true', beq_eq_false_iff_ne, bne_eq_false_iff_eq, decide_eq_false_iff_not, Decidable.not_not, Bool.or_eq_false_iff, Bool.and_eq_false_iff, Bool.not_eq_false']; omega) ?_ | refine Post.brF (by simp only [Bool.or_eq_true, Bool.and_eq_true, beq_iff_eq, bne_iff_ne, decide_eq_true_eq, ne_eq, Bool.not_eq_true', beq_eq_false_iff_ne, bne_eq_false_iff_eq, decide_eq_false_iff_not, Decidable.not_not, Bool.or_eq_false_iff, Bool.and_eq_false_iff, Bool.not_eq_false']; omega) ?_)
            (first | refine ptab _ rfl (by omega) ?_ | refine Post.bnd (idx_set_at (by omega) (by simp only [List.length_set, tab_len]; omega)) ?_)
            (first | refine Post.brT (by simp only [Bool.or_eq_true, Bool.and_eq_true, beq_iff_eq, bne_iff_ne, decide_eq_true_eq, ne_eq, Bool.not_eq_true', beq_eq_false_iff_ne, bne_eq_false_iff_eq, decide_eq_false_iff_not, Decidable.not_not, Bool.or_eq_false_iff, Bool.and_eq_false_iff, Bool.not_eq_false']; omega) ?_ | refine Post.brF (by simp only [Bool.or_eq_true, Bool.and_eq_true, beq_iff_eq, bne_iff_ne, decide_eq_true_eq, ne_eq, Bool.not_eq_true', beq_eq_false_iff_ne, bne_eq_false_iff_eq, decide_eq_false_iff_not, Decidable.not_not, Bool.or_eq_false_iff, Bool.and_eq_false_iff, Bool.not_eq_false']; omega) ?_)
            exact Post.pure rfl
        · rw [if_neg hm] at hJk ⊢
          by_cases hlt : k < gr.length
          · (first | refine Post.brT (by simp only [Bool.or_eq_true, Bool.and_eq_true, beq_iff_eq, bne_iff_ne, decide_eq_true_eq, ne_eq, Bool.not_eq_true', beq_eq_false_iff_ne, bne_eq_false_iff_eq, decide_eq_false_iff_not, Decidable.not_not, Bool.or_eq_false_iff, Bool.and_eq_false_iff, Bool.not_eq_false']; omega) ?_ | refine Post.brF (by simp only [Bool.or_eq_true, Bool.and_eq_true, beq_iff_eq, bne_iff_ne, decide_eq_true_eq, ne_eq, Bool.not_eq_true', beq_eq_false_iff_ne, bne_eq_false_iff_eq, decide_eq_false_iff_not, Decidable.not_not, Bool.or_eq_false_iff, Bool.and_eq_false_iff, Bool.not_eq_false']; omega) ?_)
            refine Post.idx false k rfl hlt (Post.brF (by unfold may at hm; simpa using hm) ?_)
            (first | refine ptab _ rfl (by omega) ?_ | refine Post.bnd (idx_set_at (by omega) (by simp only [List.length_set, tab_len]; omega)) ?_)
            (first | refine Post.brT (by simp only [Bool.or_eq_true, Bool.and_eq_true, beq_iff_eq, bne_iff_ne, decide_eq_true_eq, ne_eq, Bool.not_eq_true', beq_eq_false_iff_ne, bne_eq_false_iff_eq, decide_eq_false_iff_not, Decidable.not_not, Bool.or_eq_false_iff, Bool.and_eq_false_iff, Bool.not_eq_false']; omega) ?_ | refine Post.brF (by simp only [Bool.or_eq_true, Bool.and_eq_true, beq_iff_eq, bne_iff_ne, decide_eq_true_eq, ne_eq, Bool.not_eq_true', beq_eq_false_iff_ne, bne_eq_false_iff_eq, decide_eq_false_iff_not, Decidable.not_not, Bool.or_eq_false_iff, Bool.and_eq_false_iff, Bool.not_eq_false']; omega) ?_)
            exact Post.pure rfl
          · (first | refine Post.brT (by simp only [Bool.or_eq_true, Bool.and_eq_true, beq_iff_eq, bne_iff_ne, decide_eq_true_eq, ne_eq, Bool.not_eq_true', beq_eq_false_iff_ne, bne_eq_false_iff_eq, decide_eq_false_iff_not, Decidable.not_not, Bool.or_eq_false_iff, Bool.and_eq_false_iff, Bool.not_eq_false']; omega) ?_ | refine Post.brF (by simp only [Bool.or_eq_true, Bool.and_eq_true, beq_iff_eq, bne_iff_ne, decide_eq_true_eq, ne_eq, Bool.not_eq_true', beq_eq_false_iff_ne, bne_eq_false_iff_eq, decide_eq_false_iff_not, Decidable.not_not, Bool.or_eq_false_iff, Bool.and_eq_false_iff, Bool.not_eq_false']; omega) ?_)
            (first | refine ptab _ rfl (by omega) ?_ | refine Post.bnd (idx_set_at (by omega) (by simp only [List.length_set, tab_len]; omega)) ?_)
            (first | refine Post.brT (by simp only [Bool.or_eq_true, Bool.and_eq_true, beq_iff_eq, bne_iff_ne, decide_eq_true_eq, ne_eq, Bool.not_eq_true', beq_eq_false_iff_ne, bne_eq_false_iff_eq, decide_eq_false_iff_not, Decidable.not_not, Bool.or_eq_false_iff, Bool.and_eq_false_iff, Bool.not_eq_false']; omega) ?_ | refine Post.brF (by simp only [Bool.or_eq_true, Bool.and_eq_true, beq_iff_eq, bne_iff_ne, decide_eq_true_eq, ne_eq, Bool.not_eq_true', beq_eq_false_iff_ne, bne_eq_false_iff_eq, decide_eq_false_iff_not, Decidable.not_not, Bool.or_eq_false_iff, Bool.and_eq_false_iff, Bool.not_eq_false']; omega) ?_)
            exact Post.pure rfl
      · dsimp only
        unfold law34_AlignJustify_L20
        (first | refine Post.brT (by simp only [Bool.or_eq_true, Bool.and_eq_true, beq_iff_eq, bne_iff_ne, decide_eq_true_eq, ne_eq, Bool.not_eq_true', beq_eq_false_iff_ne, bne_eq_false_iff_eq, decide_eq_false_iff_not, Decidable.not_not, Bool.or_eq_false_iff, Bool.and_eq_false_iff, Bool.not_eq_false']; omega) ?_ | refine Post.brF (by simp only [Bool.or_eq_true, Bool.and_eq_true, beq_iff_eq, bne_iff_ne, decide_eq_true_eq, ne_eq, Bool.not_eq_true', beq_eq_false_iff_ne, bne_eq_false_iff_eq, decide_eq_false_iff_not, Decidable.not_not, Bool.or_eq_false_iff, Bool.and_eq_false_iff, Bool.not_eq_false']; omega) ?_)
        exact Post.pure rfl
      · dsimp only
        refine Post.bnd (sum_F n _ (by omega) hr) (Post.pure ?_)
        rw [hsum]; simp
theorem alignJustify_all (x : Tys.I [.sl (.int .u8), .sl .bool, .int .u8]) (h : WfAll [.sl (.int .u8), .sl .bool, .int .u8] x) (hb : bulkAll [.sl (.int .u8), .sl .bool, .int .u8] x ≤ 1048576) : law34_AlignJustify_F x.1 x.2.1 x.2.2.1 = some true := by
  simp only [bulkAll, bulk] at hb
  exact alignJustify_F _ _ _ (by omega) (fun n hn => wf_u8 (h.1.2 n hn)) (wf_u8 h.2.2.1)

end Go.Proofs.Ytiijkbdffbjehaa
