/-
  The laws of align return true.
-/
import Derived.Test.YtiijkbdffbjehaaDoorSh
import Derived.Test.YtiijkbdffbjehaaDoorEvMath
namespace Go.Proofs.YtiijkbdffbjehaaDoor
set_option linter.all false

theorem same_F (a : List Int) (hn : a.length ≤ 4194304) : law25_Same_F a a = some true := by
  unfold law25_Same_F law25_Same_T
  refine Post.run (Post.brF (by simp) (Post.altL (b := ()) (count (L := fun s : List Int × List Int × Int => law25_Same_L4 s.1 s.2.1 s.2.2) a.length (fun k => (a, a, (k : Int))) rfl (fun k hk => ?_) ?_) (Post.pure rfl)))
  · dsimp only
    unfold law25_Same_L4
    refine Post.brT (by rw [decide_eq_true_eq]; omega) (Post.idx 0 k rfl hk (Post.idx 0 k rfl hk (Post.brF (by simp) (Post.pure (by rw [wrap_succ (by omega)])))))
  · dsimp only
    unfold law25_Same_L4
    exact Post.brF (by simp) (Post.pure rfl)

/-! ### sums, and how many may grow -/
def sm (g : Nat → Int) : Nat → Int
  | 0 => 0
  | k + 1 => sm g k + g k
def may (gr : List Bool) (i : Nat) : Bool := gr.getD i false
def cnt (gr : List Bool) : Nat → Nat
  | 0 => 0
  | k + 1 => cnt gr k + if may gr k = true then 1 else 0
theorem cnt_succ (gr : List Bool) (k : Nat) : cnt gr (k + 1) = cnt gr k + if may gr k = true then 1 else 0 := rfl
theorem sm_range {g : Nat → Int} (h : ∀ i, 0 ≤ g i ∧ g i ≤ 1000) : ∀ k : Nat, 0 ≤ sm g k ∧ sm g k ≤ 1000 * k
  | 0 => by simp [sm]
  | k + 1 => by
    have := sm_range h k
    have := h k
    unfold sm
    omega
theorem cnt_le (gr : List Bool) : ∀ k, cnt gr k ≤ k
  | 0 => Nat.le_refl _
  | k + 1 => by
    have := cnt_le gr k
    unfold cnt
    split <;> omega
theorem may_F (gr : List Bool) (i : Nat) : align_may_F gr (i : Int) = some (may gr i) := by
  unfold align_may_F align_may_T may
  by_cases h : i < gr.length
  · exact Post.run (Post.brT (by rw [decide_eq_true_eq]; omega) (Post.idx false i rfl h (Post.pure rfl)))
  · exact Post.run (Post.brF (by rw [decide_eq_false_iff_not]; omega) (Post.pure (getD_len (by omega)).symm))
def jst (gr : List Bool) (g : Nat → Int) (each more : Int) (i : Nat) : Int := if may gr i = true then g i + each + (if (cnt gr i : Int) < more then 1 else 0) else g i
def Jst (gr : List Bool) (n : Nat) (g : Nat → Int) (W : Int) : Nat → Int :=
  if W - sm g n ≤ 0 ∨ cnt gr n = 0 then g else jst gr g ((W - sm g n) / (cnt gr n : Int)) ((W - sm g n) % (cnt gr n : Int))

theorem justify_F (gr : List Bool) (n : Nat) (g : Nat → Int) (W : Int) (hn : n ≤ 4194304) (h : ∀ i, 0 ≤ g i ∧ g i ≤ 1000) (hW : -8589934592 ≤ W ∧ W ≤ 8589934592) : align_Justify_F (tab n g) gr W = some (tab n (Jst gr n g W)) := by
  unfold align_Justify_F align_Justify_T
  have hclone : slices_Clone___int_int__F (tab n g) = some (tab n g) := by
    unfold slices_Clone___int_int__F slices_Clone___int_int__T
    exact Post.run (Post.bnd (app_eq (by rw [tab_len]; simp; omega)) (Post.pure rfl))
  have hs := sm_range h n
  have hc := cnt_le gr n
  rw [tab_len]
  refine Post.run (Post.bnd hclone (Post.bnd (count (L := fun s : List Bool × List Int × Int × Int × List Int × Int × Int => align_Justify_L4 s.1 s.2.1 s.2.2.1 s.2.2.2.1 s.2.2.2.2.1 s.2.2.2.2.2.1 s.2.2.2.2.2.2) n (fun k => (gr, tab n g, W - sm g k, (cnt gr k : Int), tab n g, (n : Int), (k : Int))) (r := (gr, tab n g, W - sm g n, (cnt gr n : Int))) (by simp [sm, cnt]) (fun k hk => ?_) ?_) ?_))
  · dsimp only
    have h1 := sm_range h k
    have h2 := h k
    have h3 := cnt_le gr k
    unfold align_Justify_L4
    rw [wrap_succ (k := k) (by omega)]
    (first | refine Post.brT (by simp only [Bool.or_eq_true, Bool.and_eq_true, beq_iff_eq, bne_iff_ne, decide_eq_true_eq, ne_eq, Bool.not_eq_true', beq_eq_false_iff_ne, bne_eq_false_iff_eq, decide_eq_false_iff_not, Decidable.not_not, Bool.or_eq_false_iff, Bool.and_eq_false_iff, Bool.not_eq_false']; omega) ?_ | refine Post.brF (by simp only [Bool.or_eq_true, Bool.and_eq_true, beq_iff_eq, bne_iff_ne, decide_eq_true_eq, ne_eq, Bool.not_eq_true', beq_eq_false_iff_ne, bne_eq_false_iff_eq, decide_eq_false_iff_not, Decidable.not_not, Bool.or_eq_false_iff, Bool.and_eq_false_iff, Bool.not_eq_false']; omega) ?_)
    (first | refine ptab _ rfl (by omega) ?_ | refine Post.bnd (idx_set_at (by omega) (by simp only [List.length_set, tab_len]; omega)) ?_)
    rw [wrap64 (by omega) (by omega), show sm g (k + 1) = sm g k + g k from rfl, show W - (sm g k + g k) = W - sm g k - g k by omega]
    refine Post.bnd (may_F gr k) (Post.br (fun hm => ?_) (fun hm => ?_))
    · rw [cnt_succ, if_pos hm]
      exact Post.pure (by rw [wrap_succ (k := cnt gr k) (by omega)])
    · rw [cnt_succ, if_neg (by rw [hm]; simp), Nat.add_zero]
      exact Post.pure rfl
  · dsimp only
    unfold align_Justify_L4
    (first | refine Post.brT (by simp only [Bool.or_eq_true, Bool.and_eq_true, beq_iff_eq, bne_iff_ne, decide_eq_true_eq, ne_eq, Bool.not_eq_true', beq_eq_false_iff_ne, bne_eq_false_iff_eq, decide_eq_false_iff_not, Decidable.not_not, Bool.or_eq_false_iff, Bool.and_eq_false_iff, Bool.not_eq_false']; omega) ?_ | refine Post.brF (by simp only [Bool.or_eq_true, Bool.and_eq_true, beq_iff_eq, bne_iff_ne, decide_eq_true_eq, ne_eq, Bool.not_eq_true', beq_eq_false_iff_ne, bne_eq_false_iff_eq, decide_eq_false_iff_not, Decidable.not_not, Bool.or_eq_false_iff, Bool.and_eq_false_iff, Bool.not_eq_false']; omega) ?_)
    exact Post.pure rfl
  · dsimp only
    by_cases h1 : W - sm g n ≤ 0
    · (first | refine Post.brT (by simp only [Bool.or_eq_true, Bool.and_eq_true, beq_iff_eq, bne_iff_ne, decide_eq_true_eq, ne_eq, Bool.not_eq_true', beq_eq_false_iff_ne, bne_eq_false_iff_eq, decide_eq_false_iff_not, Decidable.not_not, Bool.or_eq_false_iff, Bool.and_eq_false_iff, Bool.not_eq_false']; omega) ?_ | refine Post.brF (by simp only [Bool.or_eq_true, Bool.and_eq_true, beq_iff_eq, bne_iff_ne, decide_eq_true_eq, ne_eq, Bool.not_eq_true', beq_eq_false_iff_ne, bne_eq_false_iff_eq, decide_eq_false_iff_not, Decidable.not_not, Bool.or_eq_false_iff, Bool.and_eq_false_iff, Bool.not_eq_false']; omega) ?_)
      exact Post.pure (by unfold Jst; rw [if_pos (.inl h1)])
    · (first | refine Post.brT (by simp only [Bool.or_eq_true, Bool.and_eq_true, beq_iff_eq, bne_iff_ne, decide_eq_true_eq, ne_eq, Bool.not_eq_true', beq_eq_false_iff_ne, bne_eq_false_iff_eq, decide_eq_false_iff_not, Decidable.not_not, Bool.or_eq_false_iff, Bool.and_eq_false_iff, Bool.not_eq_false']; omega) ?_ | refine Post.brF (by simp only [Bool.or_eq_true, Bool.and_eq_true, beq_iff_eq, bne_iff_ne, decide_eq_true_eq, ne_eq, Bool.not_eq_true', beq_eq_false_iff_ne, bne_eq_false_iff_eq, decide_eq_false_iff_not, Decidable.not_not, Bool.or_eq_false_iff, Bool.and_eq_false_iff, Bool.not_eq_false']; omega) ?_)
      by_cases h2 : cnt gr n = 0
      · (first | refine Post.brT (by simp only [Bool.or_eq_true, Bool.and_eq_true, beq_iff_eq, bne_iff_ne, decide_eq_true_eq, ne_eq, Bool.not_eq_true', beq_eq_false_iff_ne, bne_eq_false_iff_eq, decide_eq_false_iff_not, Decidable.not_not, Bool.or_eq_false_iff, Bool.and_eq_false_iff, Bool.not_eq_false']; omega) ?_ | refine Post.brF (by simp only [Bool.or_eq_true, Bool.and_eq_true, beq_iff_eq, bne_iff_ne, decide_eq_true_eq, ne_eq, Bool.not_eq_true', beq_eq_false_iff_ne, bne_eq_false_iff_eq, decide_eq_false_iff_not, Decidable.not_not, Bool.or_eq_false_iff, Bool.and_eq_false_iff, Bool.not_eq_false']; omega) ?_)
        exact Post.pure (by unfold Jst; rw [if_pos (.inr h2)])
      · (first | refine Post.brT (by simp only [Bool.or_eq_true, Bool.and_eq_true, beq_iff_eq, bne_iff_ne, decide_eq_true_eq, ne_eq, Bool.not_eq_true', beq_eq_false_iff_ne, bne_eq_false_iff_eq, decide_eq_false_iff_not, Decidable.not_not, Bool.or_eq_false_iff, Bool.and_eq_false_iff, Bool.not_eq_false']; omega) ?_ | refine Post.brF (by simp only [Bool.or_eq_true, Bool.and_eq_true, beq_iff_eq, bne_iff_ne, decide_eq_true_eq, ne_eq, Bool.not_eq_true', beq_eq_false_iff_ne, bne_eq_false_iff_eq, decide_eq_false_iff_not, Decidable.not_not, Bool.or_eq_false_iff, Bool.and_eq_false_iff, Bool.not_eq_false']; omega) ?_)
        (first | refine Post.brT (by simp only [Bool.or_eq_true, Bool.and_eq_true, beq_iff_eq, bne_iff_ne, decide_eq_true_eq, ne_eq, Bool.not_eq_true', beq_eq_false_iff_ne, bne_eq_false_iff_eq, decide_eq_false_iff_not, Decidable.not_not, Bool.or_eq_false_iff, Bool.and_eq_false_iff, Bool.not_eq_false']; omega) ?_ | refine Post.brF (by simp only [Bool.or_eq_true, Bool.and_eq_true, beq_iff_eq, bne_iff_ne, decide_eq_true_eq, ne_eq, Bool.not_eq_true', beq_eq_false_iff_ne, bne_eq_false_iff_eq, decide_eq_false_iff_not, Decidable.not_not, Bool.or_eq_false_iff, Bool.and_eq_false_iff, Bool.not_eq_false']; omega) ?_)
        (first | refine Post.brT (by simp only [Bool.or_eq_true, Bool.and_eq_true, beq_iff_eq, bne_iff_ne, decide_eq_true_eq, ne_eq, Bool.not_eq_true', beq_eq_false_iff_ne, bne_eq_false_iff_eq, decide_eq_false_iff_not, Decidable.not_not, Bool.or_eq_false_iff, Bool.and_eq_false_iff, Bool.not_eq_false']; omega) ?_ | refine Post.brF (by simp only [Bool.or_eq_true, Bool.and_eq_true, beq_iff_eq, bne_iff_ne, decide_eq_true_eq, ne_eq, Bool.not_eq_true', beq_eq_false_iff_ne, bne_eq_false_iff_eq, decide_eq_false_iff_not, Decidable.not_not, Bool.or_eq_false_iff, Bool.and_eq_false_iff, Bool.not_eq_false']; omega) ?_)
        have hJ : Jst gr n g W = jst gr g ((W - sm g n) / (cnt gr n : Int)) ((W - sm g n) % (cnt gr n : Int)) := by unfold Jst; rw [if_neg (by omega)]
        have he0 : 0 ≤ (W - sm g n) / (cnt gr n : Int) := Int.ediv_nonneg (by omega) (by omega)
        have he1 : (W - sm g n) / (cnt gr n : Int) ≤ W - sm g n := Int.ediv_le_self _ (by omega)
        have hm0 : 0 ≤ (W - sm g n) % (cnt gr n : Int) := Int.emod_nonneg _ (by omega)
        have hm1 : (W - sm g n) % (cnt gr n : Int) < cnt gr n := Int.emod_lt_of_pos _ (by omega)
        rw [Int.tdiv_eq_ediv_of_nonneg (by omega), Int.tmod_eq_emod_of_nonneg (by omega), hJ, wrap64 (by omega) (by omega), tab_len]
        generalize (W - sm g n) / (cnt gr n : Int) = each at *
        generalize (W - sm g n) % (cnt gr n : Int) = more at *
        refine Post.bnd (count (L := fun s : List Bool × List Int × Int × Int × Int × Int => align_Justify_L14 s.1 s.2.1 s.2.2.1 s.2.2.2.1 s.2.2.2.2.1 s.2.2.2.2.2) n (fun k => (gr, tab n (part (jst gr g each more) g k), each, (if (cnt gr k : Int) < more then more - cnt gr k else 0), (n : Int), (k : Int))) (r := tab n (jst gr g each more)) ?_ (fun k hk => ?_) ?_) (Post.pure rfl)
        · rw [part_zero]
          simp [cnt]
          omega
        · dsimp only
          have h3 := h k
          have h4 := cnt_le gr k
          have e : jst gr g each more k = if may gr k = true then g k + each + (if (cnt gr k : Int) < more then 1 else 0) else g k := rfl
          unfold align_Justify_L14
          rw [wrap_succ (by omega), toNat_nat]
          (first | refine Post.brT (by simp only [Bool.or_eq_true, Bool.and_eq_true, beq_iff_eq, bne_iff_ne, decide_eq_true_eq, ne_eq, Bool.not_eq_true', beq_eq_false_iff_ne, bne_eq_false_iff_eq, decide_eq_false_iff_not, Decidable.not_not, Bool.or_eq_false_iff, Bool.and_eq_false_iff, Bool.not_eq_false']; omega) ?_ | refine Post.brF (by simp only [Bool.or_eq_true, Bool.and_eq_true, beq_iff_eq, bne_iff_ne, decide_eq_true_eq, ne_eq, Bool.not_eq_true', beq_eq_false_iff_ne, bne_eq_false_iff_eq, decide_eq_false_iff_not, Decidable.not_not, Bool.or_eq_false_iff, Bool.and_eq_false_iff, Bool.not_eq_false']; omega) ?_)
          refine Post.bnd (may_F gr k) (Post.br (fun hm => ?_) (fun hm => ?_))
          · have hm : may gr k = false := by simpa using hm
            rw [if_neg (by rw [hm]; simp)] at e
            have hc0 : cnt gr (k + 1) = cnt gr k := by
              show cnt gr k + (if may gr k = true then 1 else 0) = _
              rw [hm]
              rfl
            rw [hc0]
            exact Post.pure (by rw [← part_keep n e])
          · have hm : may gr k = true := by simpa using hm
            rw [if_pos hm] at e
            have hc1 : cnt gr (k + 1) = cnt gr k + 1 := by
              show cnt gr k + (if may gr k = true then 1 else 0) = _
              rw [if_pos hm]
            rw [hc1]
            refine ptab k rfl hk (ptab k rfl hk ?_)
            rw [part_at, wrap64 (n := g k + each) (by omega) (by omega)]
            by_cases hq : (cnt gr k : Int) < more
            · rw [if_pos hq] at e ⊢
              have i1 := fun v : Int => idx_set_at (xs := tab n (part (jst gr g each more) g k)) (i := (k : Int)) (v := v) (by omega) (by rw [tab_len]; omega)
              rw [toNat_nat] at i1
              (first | refine Post.brT (by simp only [Bool.or_eq_true, Bool.and_eq_true, beq_iff_eq, bne_iff_ne, decide_eq_true_eq, ne_eq, Bool.not_eq_true', beq_eq_false_iff_ne, bne_eq_false_iff_eq, decide_eq_false_iff_not, Decidable.not_not, Bool.or_eq_false_iff, Bool.and_eq_false_iff, Bool.not_eq_false']; omega) ?_ | refine Post.brF (by simp only [Bool.or_eq_true, Bool.and_eq_true, beq_iff_eq, bne_iff_ne, decide_eq_true_eq, ne_eq, Bool.not_eq_true', beq_eq_false_iff_ne, bne_eq_false_iff_eq, decide_eq_false_iff_not, Decidable.not_not, Bool.or_eq_false_iff, Bool.and_eq_false_iff, Bool.not_eq_false']; omega) ?_)
              refine Post.bnd (i1 _) (Post.bnd (i1 _) (Post.pure ?_))
              rw [List.set_set, wrap64 (by omega) (by omega), wrap64 (by omega) (by omega), part_set n e]
              by_cases hq2 : ((cnt gr k + 1 : Nat) : Int) < more
              · rw [if_pos hq2]
                congr 5
                omega
              · rw [if_neg hq2]
                congr 5
                omega
            · rw [if_neg hq] at e ⊢
              rw [if_neg (by omega)]
              (first | refine Post.brT (by simp only [Bool.or_eq_true, Bool.and_eq_true, beq_iff_eq, bne_iff_ne, decide_eq_true_eq, ne_eq, Bool.not_eq_true', beq_eq_false_iff_ne, bne_eq_false_iff_eq, decide_eq_false_iff_not, Decidable.not_not, Bool.or_eq_false_iff, Bool.and_eq_false_iff, Bool.not_eq_false']; omega) ?_ | refine Post.brF (by simp only [Bool.or_eq_true, Bool.and_eq_true, beq_iff_eq, bne_iff_ne, decide_eq_true_eq, ne_eq, Bool.not_eq_true', beq_eq_false_iff_ne, bne_eq_false_iff_eq, decide_eq_false_iff_not, Decidable.not_not, Bool.or_eq_false_iff, Bool.and_eq_false_iff, Bool.not_eq_false']; omega) ?_)
              exact Post.pure (by rw [part_set n (by rw [e]; omega)])
        · dsimp only
          unfold align_Justify_L14
          (first | refine Post.brT (by simp only [Bool.or_eq_true, Bool.and_eq_true, beq_iff_eq, bne_iff_ne, decide_eq_true_eq, ne_eq, Bool.not_eq_true', beq_eq_false_iff_ne, bne_eq_false_iff_eq, decide_eq_false_iff_not, Decidable.not_not, Bool.or_eq_false_iff, Bool.and_eq_false_iff, Bool.not_eq_false']; omega) ?_ | refine Post.brF (by simp only [Bool.or_eq_true, Bool.and_eq_true, beq_iff_eq, bne_iff_ne, decide_eq_true_eq, ne_eq, Bool.not_eq_true', beq_eq_false_iff_ne, bne_eq_false_iff_eq, decide_eq_false_iff_not, Decidable.not_not, Bool.or_eq_false_iff, Bool.and_eq_false_iff, Bool.not_eq_false']; omega) ?_)
          exact Post.pure (by rw [part_end])

theorem indent_F (c w s l : Int) (hc : 0 ≤ c ∧ c ≤ 65535) (hw : 0 ≤ w ∧ w ≤ 65535) (hl : 0 ≤ l) (hs : 0 ≤ s ∧ s ≤ 4) : align_Indent_F c w s l = some ((if s = 0 then (if l % 2 = 0 then 0 else max 0 (w - c)) else if s = 3 then max 0 (w - c) else if s = 1 then (if l % 2 = 0 then max 0 (w - c) else 0) else if s = 2 then 0 else
    if l % 2 = 0 then max 0 (w - c) / 2 else max 0 (w - c) - max 0 (w - c) / 2), none) := by
  unfold align_Indent_F align_Indent_T
  have hf : (if 0 > (IntKind.i64.wrap (w - c)) then 0 else (IntKind.i64.wrap (w - c))) = max 0 (w - c) := by
    rw [wrap64 (by omega) (by omega)]
    split <;> omega
  have hm : l.tmod 2 = l % 2 := Int.tmod_eq_emod_of_nonneg hl
  have hd : (max 0 (w - c)).tdiv 2 = max 0 (w - c) / 2 := Int.tdiv_eq_ediv_of_nonneg (by omega)
  rw [hf, hm, hd, wrap64 (n := max 0 (w - c) / 2) (by omega) (by omega), wrap64 (by omega) (by omega)]
  refine Post.run ?_
  by_cases e : l % 2 = 0
  · have : s = 0 ∨ s = 1 ∨ s = 2 ∨ s = 3 ∨ s = 4 := by omega
    rcases this with rfl | rfl | rfl | rfl | rfl <;> simp only [e]
    · exact Post.brT rfl (Post.brT rfl (Post.pure rfl))
    · exact Post.brF rfl (Post.brF rfl (Post.brT rfl (Post.brT rfl (Post.pure rfl))))
    · exact Post.brF rfl (Post.brF rfl (Post.brF rfl (Post.brT rfl (Post.pure rfl))))
    · exact Post.brF rfl (Post.brT rfl (Post.pure rfl))
    · exact Post.brF rfl (Post.brF rfl (Post.brF rfl (Post.brF rfl (Post.brT rfl (Post.brF rfl (Post.pure rfl))))))
  · have e : l % 2 = 1 := by omega
    have : s = 0 ∨ s = 1 ∨ s = 2 ∨ s = 3 ∨ s = 4 := by omega
    rcases this with rfl | rfl | rfl | rfl | rfl <;> simp only [e]
    · exact Post.brT rfl (Post.brF rfl (Post.pure rfl))
    · exact Post.brF rfl (Post.brF rfl (Post.brT rfl (Post.brF rfl (Post.pure rfl))))
    · exact Post.brF rfl (Post.brF rfl (Post.brF rfl (Post.brT rfl (Post.pure rfl))))
    · exact Post.brF rfl (Post.brT rfl (Post.pure rfl))
    · exact Post.brF rfl (Post.brF rfl (Post.brF rfl (Post.brF rfl (Post.brT rfl (Post.brT rfl (Post.pure rfl))))))

theorem awake34 : law34_awake_F = some true := by
  unfold law34_awake_F law34_awake_T
  have hj := justify_F [false, true, false, true] 4 (fun _ => 1) 9 (by omega) (fun _ => by omega) (by omega)
  refine Post.run (Post.bnd (indent_F 3 10 4 0 (by omega) (by omega) (by omega) (by omega)) (Post.bnd (indent_F 3 10 4 1 (by omega) (by omega) (by omega) (by omega)) (Post.bnd (indent_F 3 10 1 1 (by omega) (by omega) (by omega) (by omega)) (Post.bnd hj ?_))))
  refine Post.brT rfl (Post.brT rfl (Post.brT rfl (Post.brT rfl (Post.brT rfl (Post.brT rfl (Post.bnd (show law25_Same_F _ [1, 4, 1, 3] = some true from same_F [1, 4, 1, 3] (by simp)) (Post.pure rfl)))))))

theorem wrapU {n : Int} (h : 0 ≤ n ∧ n ≤ 65535) : IntKind.i64.wrap n = n := wrap64 (by omega) (by omega)
theorem told_side (s : Int) : law02_Told_F (some (4, ByteArray.mk #[115, 105, 100, 101], s)) 4 (ByteArray.mk #[115, 105, 100, 101]) s = some true := by
  unfold law02_Told_F law02_Told_T
  exact Post.run (Post.brF (by rfl) (Post.bnd (b := (ByteArray.mk #[115, 105, 100, 101], s)) rfl (Post.bnd (b := 4) rfl (Post.brT (by rfl) (Post.brT (by simp) (Post.pure (by simp)))))))
theorem indent_else (c w s l : Int) (hs : s < 0 ∨ 4 < s) : align_Indent_F c w s l = some (0, some (4, ByteArray.mk #[115, 105, 100, 101], s)) := by
  unfold align_Indent_F align_Indent_T
  refine Post.run ?_
  refine Post.brF (by simp; omega) (Post.brF (by simp; omega) (Post.brF (by simp; omega) (Post.brF (by simp; omega) (Post.brF (by simp; omega) (Post.bnd (b := some (4, ByteArray.mk #[115, 105, 100, 101], s)) rfl (Post.pure rfl))))))

theorem alignIndent_F (c w s l : Int) (hc : 0 ≤ c ∧ c ≤ 65535) (hw : 0 ≤ w ∧ w ≤ 65535) (hl : 0 ≤ l ∧ l ≤ 255) : law34_AlignIndent_F c w s l = some true := by
  unfold law34_AlignIndent_F law34_AlignIndent_T
  rw [wrap64 (n := c) (by omega) (by omega), wrap64 (n := w) (by omega) (by omega), wrap64 (n := l) (by omega) (by omega)]
  have hf : (if IntKind.i64.wrap (w - c) > 0 then IntKind.i64.wrap (w - c) else 0) = max 0 (w - c) := by
    rw [wrap64 (by omega) (by omega)]
    split <;> omega
  have hm : l.tmod 2 = l % 2 := Int.tmod_eq_emod_of_nonneg hl.1
  have hl2 : l % 2 = 0 ∨ l % 2 = 1 := by omega
  rw [hf, hm]
  refine Post.run (Post.bnd awake34 (Post.brF (by rfl) ?_))
  by_cases hs4 : 0 ≤ s ∧ s ≤ 4
  · refine Post.bnd (indent_F c w s l hc hw hl.1 hs4) ?_
    have hM : 0 ≤ max 0 (w - c) ∧ max 0 (w - c) ≤ 65535 := by omega
    generalize max 0 (w - c) = m at *
    generalize l % 2 = q at *
    have h5 : s = 0 ∨ s = 1 ∨ s = 2 ∨ s = 3 ∨ s = 4 := by omega
    rcases h5 with rfl | rfl | rfl | rfl | rfl
    · rcases hl2 with rfl | rfl
      · exact Post.brT rfl (Post.brT (beq_iff_eq.2 (by rw [wrap64 (by omega) (by omega)]; simp)) (Post.pure rfl))
      · exact Post.brT rfl (Post.brT (beq_iff_eq.2 (by rw [wrap64 (by omega) (by omega)]; simp)) (Post.pure rfl))
    · rcases hl2 with rfl | rfl
      · exact Post.brF rfl (Post.brT rfl (Post.brT (beq_iff_eq.2 (by rw [wrap64 (n := 1 - 0) (by omega) (by omega), wrap64 (by omega) (by omega)]; simp)) (Post.pure rfl)))
      · exact Post.brF rfl (Post.brT rfl (Post.brT (beq_iff_eq.2 (by rw [wrap64 (n := 1 - 1) (by omega) (by omega), wrap64 (by omega) (by omega)]; simp)) (Post.pure rfl)))
    · exact Post.brF rfl (Post.brF rfl (Post.brT rfl (Post.brT (by rfl) (Post.pure rfl))))
    · exact Post.brF rfl (Post.brF rfl (Post.brF rfl (Post.brT rfl (Post.brT (by simp) (Post.pure rfl)))))
    · rcases hl2 with rfl | rfl
      · exact Post.brF rfl (Post.brF rfl (Post.brF rfl (Post.brF rfl (Post.brT rfl (Post.brT (beq_iff_eq.2 (by rw [wrap64 (n := m + 0) (by omega) (by omega), Int.tdiv_eq_ediv_of_nonneg (by omega), wrap64 (by omega) (by omega)]; simp)) (Post.pure rfl))))))
      · exact Post.brF rfl (Post.brF rfl (Post.brF rfl (Post.brF rfl (Post.brT rfl (Post.brT (beq_iff_eq.2 (by rw [wrap64 (n := m + 1) (by omega) (by omega), Int.tdiv_eq_ediv_of_nonneg (by omega), wrap64 (by omega) (by omega)]; simp; omega)) (Post.pure rfl))))))
  · refine Post.bnd (indent_else c w s l (by omega)) ?_
    refine Post.brF (by simp; omega) (Post.brF (by simp; omega) (Post.brF (by simp; omega) (Post.brF (by simp; omega) (Post.brF (by simp; omega) (Post.brT (by rfl) (Post.bnd (told_side s) (Post.pure rfl)))))))
theorem alignIndent_all (x : Tys.I [.int .u16, .int .u16, .int .i64, .int .u8]) (h : WfAll [.int .u16, .int .u16, .int .i64, .int .u8] x) : law34_AlignIndent_F x.1 x.2.1 x.2.2.1 x.2.2.2.1 = some true :=
  alignIndent_F _ _ _ _ (wf_u16 h.1) (wf_u16 h.2.1) (wf_u8 h.2.2.2.1)

end Go.Proofs.YtiijkbdffbjehaaDoor
