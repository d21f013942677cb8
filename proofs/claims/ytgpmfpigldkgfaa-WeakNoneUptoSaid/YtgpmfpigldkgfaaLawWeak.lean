/-
  The laws of weak classes return true: rule by rule, what the program does and what the document says are one function of a place.
-/
import Derived.Test.YtgpmfpigldkgfaaSh
import Derived.Test.YtgpmfpigldkgfaaEvMath
namespace Go.Proofs.Ytgpmfpigldkgfaa
set_option linter.all false

/-! ### small functions -/
theorem iso_F (c : Int) : bidic_Isolate_F c = some (c == 19 || c == 20 || c == 21) := by
  unfold bidic_Isolate_F bidic_Isolate_T
  simp only [Tr.run_br, Tr.run_pure]
  by_cases h1 : c = 19 <;> by_cases h2 : c = 20 <;> simp_all
theorem strong_F (c : Int) : bidic_Strong_F c = some (c == 0 || c == 1 || c == 2) := by
  unfold bidic_Strong_F bidic_Strong_T
  simp only [Tr.run_br, Tr.run_pure]
  by_cases h1 : c = 0 <;> by_cases h2 : c = 1 <;> simp_all
theorem joins_F (a b : Int) : weak_joins_F a b = some (b == 3 && (a == 4 || a == 7) || b == 6 && a == 7) := by
  unfold weak_joins_F weak_joins_T
  simp only [Tr.run_br, Tr.run_pure]
  by_cases h1 : b = 3 <;> by_cases h2 : b = 6 <;> by_cases h3 : a = 4 <;> simp_all
theorem copied_F (cs : List Int) (hn : cs.length ≤ 4194304) : ref14_copied_F cs = some cs := by
  unfold ref14_copied_F ref14_copied_T
  rw [Tr.run_bnd_some (app_eq (by simp; omega))]; rfl
theorem clone_F (cs : List Int) (hn : cs.length ≤ 4194304) : bidic_Class__F cs = some cs := by
  unfold bidic_Class__F bidic_Class__T
  rw [Tr.run_bnd_some (app_eq (by simp; omega))]; rfl

/-! ### rule 1: marks -/
def blank (b : Int) : Int := if 19 ≤ b ∧ b ≤ 22 then 13 else b
def m1 (sos : Int) (g : Nat → Int) : Nat → Int
  | 0 => if g 0 = 8 then blank sos else g 0
  | i + 1 => if g (i + 1) = 8 then blank (m1 sos g i) else g (i + 1)
theorem m1_eq (sos : Int) (g : Nat → Int) (k : Nat) : m1 sos g k = if g k = 8 then blank (prev sos (m1 sos g) k) else g k := by cases k <;> rfl

theorem marks_F (sos : Int) (g : Nat → Int) (n : Nat) (hn : n ≤ 4194304) : weak_marks_F (tab n g) sos = some (tab n (m1 sos g), ()) := by
  unfold weak_marks_F weak_marks_T
  rw [tab_len]
  refine Post.run (Post.bnd (count (L := fun s : List Int × Int × Int × Int => weak_marks_L2 s.1 s.2.1 s.2.2.1 s.2.2.2) n (fun k => (tab n (part (m1 sos g) g k), prev sos (m1 sos g) k, (n : Int), (k : Int))) (r := tab n (m1 sos g)) rfl (fun k hk => ?_) ?_) (Post.pure rfl))
  · dsimp only
    have e := m1_eq sos g k
    unfold weak_marks_L2
    refine Post.brT (decide_eq_true (by omega)) (ptab k rfl hk (ptab k rfl hk ?_))
    rw [part_at]
    refine Post.br (fun h => ?_) (fun h => ?_)
    · rw [beq_iff_eq] at h
      rw [if_pos h] at e
      have l0 : (0 : Int) ≤ (k : Int) := by omega
      have l1 : (k : Int) < (tab n (part (m1 sos g) g k)).length := by rw [tab_len]; omega
      have l2 : ∀ v, (k : Int) < ((tab n (part (m1 sos g) g k)).set (Int.toNat (k : Int)) v).length := fun v => by rw [List.length_set]; exact l1
      refine ptab k rfl hk (ptab k rfl hk (Post.bnd (iso_F _) (Post.br (fun h1 => ?_) (fun h1 => ?_))))
      · refine Post.bnd (idx_set_at l0 l1) (Post.bnd (idx_set_at l0 l1) (Post.bnd (idx_set_at l0 (l2 _)) (Post.bnd (idx_set_at l0 (l2 _)) (Post.pure ?_))))
        have hb : blank (prev sos (m1 sos g) k) = 13 := by
          simp only [Bool.or_eq_true, beq_iff_eq] at h1
          unfold blank; rw [if_pos (by omega)]
        rw [toNat_nat, List.set_set, wrap_succ (by omega), part_set n (e.trans hb), show prev sos (m1 sos g) (k + 1) = m1 sos g k from rfl, e, hb]
      · refine Post.br (fun h2 => ?_) (fun h2 => ?_)
        · refine Post.bnd (idx_set_at l0 l1) (Post.bnd (idx_set_at l0 l1) (Post.bnd (idx_set_at l0 (l2 _)) (Post.bnd (idx_set_at l0 (l2 _)) (Post.pure ?_))))
          have hb : blank (prev sos (m1 sos g) k) = 13 := by
            rw [beq_iff_eq] at h2
            unfold blank; rw [if_pos (by omega)]
          rw [toNat_nat, List.set_set, wrap_succ (by omega), part_set n (e.trans hb), show prev sos (m1 sos g) (k + 1) = m1 sos g k from rfl, e, hb]
        · refine Post.bnd (idx_set_at l0 l1) (Post.bnd (idx_set_at l0 l1) (Post.pure ?_))
          have hb : blank (prev sos (m1 sos g) k) = prev sos (m1 sos g) k := by
            simp only [Bool.or_eq_false_iff, beq_eq_false_iff_ne, ne_eq] at h1 h2
            unfold blank; rw [if_neg (by omega)]
          rw [toNat_nat, wrap_succ (by omega), part_set n (e.trans hb), show prev sos (m1 sos g) (k + 1) = m1 sos g k from rfl, e, hb]
    · rw [beq_eq_false_iff_ne] at h
      rw [if_neg h] at e
      refine ptab k rfl hk (ptab k rfl hk (Post.pure ?_))
      rw [part_at, wrap_succ (by omega), ← part_keep n e, show prev sos (m1 sos g) (k + 1) = m1 sos g k from rfl, e]
  · dsimp only
    unfold weak_marks_L2
    exact Post.brF (decide_eq_false (by omega)) (Post.pure (by rw [part_end]))

theorem rule1_F (sos : Int) (g : Nat → Int) (n : Nat) (hn : n ≤ 4194304) : ref14_rule1_F (tab n g) sos = some (tab n (m1 sos g)) := by
  unfold ref14_rule1_F ref14_rule1_T
  refine Post.run (Post.bnd (copied_F _ (by rw [tab_len]; exact hn)) (Post.bnd (count (L := fun s : Int × List Int × Int => ref14_rule1_L3 s.1 s.2.1 s.2.2) n (fun k => (sos, tab n (part (m1 sos g) g k), (k : Int))) (r := tab n (m1 sos g)) rfl (fun k hk => ?_) ?_) (Post.pure rfl)))
  · dsimp only
    have e := m1_eq sos g k
    unfold ref14_rule1_L3
    rw [tab_len]
    refine Post.brT (decide_eq_true (by omega)) (ptab k rfl hk ?_)
    rw [part_at]
    refine Post.br (fun h => ?_) (fun h => ?_)
    · rw [bne_iff_ne] at h
      rw [if_neg h] at e
      exact Post.pure (by rw [wrap_succ (by omega), ← part_keep n e])
    · rw [bne_eq_false_iff_eq] at h
      rw [if_pos h] at e
      have ha : ref14_ahead_F (tab n (part (m1 sos g) g k)) (k : Int) sos = some (prev sos (m1 sos g) k) := by
        unfold ref14_ahead_F ref14_ahead_T
        cases k with
        | zero => rfl
        | succ k =>
          refine Post.run (Post.brF (by simp; omega) (ptab k (by rw [wrap64 (by omega) (by omega)]; omega) (by omega) (Post.pure ?_)))
          rw [part_lt _ _ (by omega)]; rfl
      refine Post.bnd ha ?_
      have out : ∀ {v : Int}, blank (prev sos (m1 sos g) k) = v → Post (Tr.pure (Lap.next (sos, (tab n (part (m1 sos g) g k)).set (Int.toNat (k : Int)) v, IntKind.i64.wrap ((k : Int) + 1)))) (· = (Lap.next (sos, tab n (part (m1 sos g) g (k + 1)), ((k + 1 : Nat) : Int)) : Lap (Int × List Int × Int) (List Int))) := fun hb => Post.pure (by rw [toNat_nat, wrap_succ (by omega), part_set n (e.trans hb)])
      refine Post.br (fun h1 => ?_) (fun h1 => ?_)
      · rw [decide_eq_true_eq] at h1
        refine Post.br (fun h2 => ?_) (fun h2 => ?_)
        · rw [decide_eq_true_eq] at h2
          exact ptab k rfl hk (out (by unfold blank; rw [if_pos (by omega)]))
        · rw [decide_eq_false_iff_not] at h2
          exact ptab k rfl hk (out (by unfold blank; rw [if_neg (by omega)]))
      · rw [decide_eq_false_iff_not] at h1
        exact ptab k rfl hk (out (by unfold blank; rw [if_neg (by omega)]))
  · dsimp only
    unfold ref14_rule1_L3
    rw [tab_len]
    exact Post.brF (decide_eq_false (by omega)) (Post.pure (by rw [part_end]))


/-! ### rule 2: numbers behind arabic letters -/
def s2 (sos : Int) (g : Nat → Int) : Nat → Int
  | 0 => sos
  | i + 1 => if g i = 0 ∨ g i = 1 ∨ g i = 2 then g i else s2 sos g i
theorem s2_succ (sos : Int) (g : Nat → Int) (k : Nat) : s2 sos g (k + 1) = if g k = 0 ∨ g k = 1 ∨ g k = 2 then g k else s2 sos g k := rfl
def m2 (sos : Int) (g : Nat → Int) (k : Nat) : Int := if g k = 3 ∧ s2 sos g k = 2 then 6 else g k

theorem arabicNumbers_F (sos : Int) (g : Nat → Int) (n : Nat) (hn : n ≤ 4194304) : weak_arabicNumbers_F (tab n g) sos = some (tab n (m2 sos g), ()) := by
  unfold weak_arabicNumbers_F weak_arabicNumbers_T
  rw [tab_len]
  refine Post.run (Post.bnd (count (L := fun s : List Int × Int × Int × Int => weak_arabicNumbers_L2 s.1 s.2.1 s.2.2.1 s.2.2.2) n (fun k => (tab n (part (m2 sos g) g k), s2 sos g k, (n : Int), (k : Int))) (r := tab n (m2 sos g)) rfl (fun k hk => ?_) ?_) (Post.pure rfl))
  · dsimp only
    have e : m2 sos g k = if g k = 3 ∧ s2 sos g k = 2 then 6 else g k := rfl
    have f := s2_succ sos g k
    unfold weak_arabicNumbers_L2
    (first | refine Post.brT (by simp only [Bool.or_eq_true, Bool.and_eq_true, beq_iff_eq, bne_iff_ne, decide_eq_true_eq, ne_eq, Bool.not_eq_true', beq_eq_false_iff_ne, bne_eq_false_iff_eq, decide_eq_false_iff_not, Decidable.not_not, Bool.or_eq_false_iff, Bool.and_eq_false_iff, Bool.not_eq_false']; omega) ?_ | refine Post.brF (by simp only [Bool.or_eq_true, Bool.and_eq_true, beq_iff_eq, bne_iff_ne, decide_eq_true_eq, ne_eq, Bool.not_eq_true', beq_eq_false_iff_ne, bne_eq_false_iff_eq, decide_eq_false_iff_not, Decidable.not_not, Bool.or_eq_false_iff, Bool.and_eq_false_iff, Bool.not_eq_false']; omega) ?_)
    (first | refine ptab _ rfl (by omega) ?_ | refine Post.bnd (idx_set_at (by omega) (by simp only [List.length_set, tab_len]; omega)) ?_)
    (first | refine ptab _ rfl (by omega) ?_ | refine Post.bnd (idx_set_at (by omega) (by simp only [List.length_set, tab_len]; omega)) ?_)
    rw [part_at]
    refine Post.bnd (strong_F _) ?_
    by_cases h1 : g k = 0 ∨ g k = 1 ∨ g k = 2
    · (first | refine Post.brT (by simp only [Bool.or_eq_true, Bool.and_eq_true, beq_iff_eq, bne_iff_ne, decide_eq_true_eq, ne_eq, Bool.not_eq_true', beq_eq_false_iff_ne, bne_eq_false_iff_eq, decide_eq_false_iff_not, Decidable.not_not, Bool.or_eq_false_iff, Bool.and_eq_false_iff, Bool.not_eq_false']; omega) ?_ | refine Post.brF (by simp only [Bool.or_eq_true, Bool.and_eq_true, beq_iff_eq, bne_iff_ne, decide_eq_true_eq, ne_eq, Bool.not_eq_true', beq_eq_false_iff_ne, bne_eq_false_iff_eq, decide_eq_false_iff_not, Decidable.not_not, Bool.or_eq_false_iff, Bool.and_eq_false_iff, Bool.not_eq_false']; omega) ?_)
      rw [if_pos h1] at f
      rw [if_neg (by omega)] at e
      (first | refine Post.brT (by simp only [Bool.or_eq_true, Bool.and_eq_true, beq_iff_eq, bne_iff_ne, decide_eq_true_eq, ne_eq, Bool.not_eq_true', beq_eq_false_iff_ne, bne_eq_false_iff_eq, decide_eq_false_iff_not, Decidable.not_not, Bool.or_eq_false_iff, Bool.and_eq_false_iff, Bool.not_eq_false']; omega) ?_ | refine Post.brF (by simp only [Bool.or_eq_true, Bool.and_eq_true, beq_iff_eq, bne_iff_ne, decide_eq_true_eq, ne_eq, Bool.not_eq_true', beq_eq_false_iff_ne, bne_eq_false_iff_eq, decide_eq_false_iff_not, Decidable.not_not, Bool.or_eq_false_iff, Bool.and_eq_false_iff, Bool.not_eq_false']; omega) ?_)
      exact Post.pure (by rw [wrap_succ (by omega), ← part_keep n e, f])
    · (first | refine Post.brT (by simp only [Bool.or_eq_true, Bool.and_eq_true, beq_iff_eq, bne_iff_ne, decide_eq_true_eq, ne_eq, Bool.not_eq_true', beq_eq_false_iff_ne, bne_eq_false_iff_eq, decide_eq_false_iff_not, Decidable.not_not, Bool.or_eq_false_iff, Bool.and_eq_false_iff, Bool.not_eq_false']; omega) ?_ | refine Post.brF (by simp only [Bool.or_eq_true, Bool.and_eq_true, beq_iff_eq, bne_iff_ne, decide_eq_true_eq, ne_eq, Bool.not_eq_true', beq_eq_false_iff_ne, bne_eq_false_iff_eq, decide_eq_false_iff_not, Decidable.not_not, Bool.or_eq_false_iff, Bool.and_eq_false_iff, Bool.not_eq_false']; omega) ?_)
      rw [if_neg h1] at f
      by_cases h2 : g k = 3
      · (first | refine Post.brT (by simp only [Bool.or_eq_true, Bool.and_eq_true, beq_iff_eq, bne_iff_ne, decide_eq_true_eq, ne_eq, Bool.not_eq_true', beq_eq_false_iff_ne, bne_eq_false_iff_eq, decide_eq_false_iff_not, Decidable.not_not, Bool.or_eq_false_iff, Bool.and_eq_false_iff, Bool.not_eq_false']; omega) ?_ | refine Post.brF (by simp only [Bool.or_eq_true, Bool.and_eq_true, beq_iff_eq, bne_iff_ne, decide_eq_true_eq, ne_eq, Bool.not_eq_true', beq_eq_false_iff_ne, bne_eq_false_iff_eq, decide_eq_false_iff_not, Decidable.not_not, Bool.or_eq_false_iff, Bool.and_eq_false_iff, Bool.not_eq_false']; omega) ?_)
        by_cases h3 : s2 sos g k = 2
        · (first | refine Post.brT (by simp only [Bool.or_eq_true, Bool.and_eq_true, beq_iff_eq, bne_iff_ne, decide_eq_true_eq, ne_eq, Bool.not_eq_true', beq_eq_false_iff_ne, bne_eq_false_iff_eq, decide_eq_false_iff_not, Decidable.not_not, Bool.or_eq_false_iff, Bool.and_eq_false_iff, Bool.not_eq_false']; omega) ?_ | refine Post.brF (by simp only [Bool.or_eq_true, Bool.and_eq_true, beq_iff_eq, bne_iff_ne, decide_eq_true_eq, ne_eq, Bool.not_eq_true', beq_eq_false_iff_ne, bne_eq_false_iff_eq, decide_eq_false_iff_not, Decidable.not_not, Bool.or_eq_false_iff, Bool.and_eq_false_iff, Bool.not_eq_false']; omega) ?_)
          rw [if_pos ⟨h2, h3⟩] at e
          (first | refine ptab _ rfl (by omega) ?_ | refine Post.bnd (idx_set_at (by omega) (by simp only [List.length_set, tab_len]; omega)) ?_)
          (first | refine ptab _ rfl (by omega) ?_ | refine Post.bnd (idx_set_at (by omega) (by simp only [List.length_set, tab_len]; omega)) ?_)
          exact Post.pure (by rw [toNat_nat, wrap_succ (by omega), part_set n e, f])
        · (first | refine Post.brT (by simp only [Bool.or_eq_true, Bool.and_eq_true, beq_iff_eq, bne_iff_ne, decide_eq_true_eq, ne_eq, Bool.not_eq_true', beq_eq_false_iff_ne, bne_eq_false_iff_eq, decide_eq_false_iff_not, Decidable.not_not, Bool.or_eq_false_iff, Bool.and_eq_false_iff, Bool.not_eq_false']; omega) ?_ | refine Post.brF (by simp only [Bool.or_eq_true, Bool.and_eq_true, beq_iff_eq, bne_iff_ne, decide_eq_true_eq, ne_eq, Bool.not_eq_true', beq_eq_false_iff_ne, bne_eq_false_iff_eq, decide_eq_false_iff_not, Decidable.not_not, Bool.or_eq_false_iff, Bool.and_eq_false_iff, Bool.not_eq_false']; omega) ?_)
          rw [if_neg (by omega)] at e
          exact Post.pure (by rw [wrap_succ (by omega), ← part_keep n e, f])
      · (first | refine Post.brT (by simp only [Bool.or_eq_true, Bool.and_eq_true, beq_iff_eq, bne_iff_ne, decide_eq_true_eq, ne_eq, Bool.not_eq_true', beq_eq_false_iff_ne, bne_eq_false_iff_eq, decide_eq_false_iff_not, Decidable.not_not, Bool.or_eq_false_iff, Bool.and_eq_false_iff, Bool.not_eq_false']; omega) ?_ | refine Post.brF (by simp only [Bool.or_eq_true, Bool.and_eq_true, beq_iff_eq, bne_iff_ne, decide_eq_true_eq, ne_eq, Bool.not_eq_true', beq_eq_false_iff_ne, bne_eq_false_iff_eq, decide_eq_false_iff_not, Decidable.not_not, Bool.or_eq_false_iff, Bool.and_eq_false_iff, Bool.not_eq_false']; omega) ?_)
        rw [if_neg (by omega)] at e
        exact Post.pure (by rw [wrap_succ (by omega), ← part_keep n e, f])
  · dsimp only
    unfold weak_arabicNumbers_L2
    (first | refine Post.brT (by simp only [Bool.or_eq_true, Bool.and_eq_true, beq_iff_eq, bne_iff_ne, decide_eq_true_eq, ne_eq, Bool.not_eq_true', beq_eq_false_iff_ne, bne_eq_false_iff_eq, decide_eq_false_iff_not, Decidable.not_not, Bool.or_eq_false_iff, Bool.and_eq_false_iff, Bool.not_eq_false']; omega) ?_ | refine Post.brF (by simp only [Bool.or_eq_true, Bool.and_eq_true, beq_iff_eq, bne_iff_ne, decide_eq_true_eq, ne_eq, Bool.not_eq_true', beq_eq_false_iff_ne, bne_eq_false_iff_eq, decide_eq_false_iff_not, Decidable.not_not, Bool.or_eq_false_iff, Bool.and_eq_false_iff, Bool.not_eq_false']; omega) ?_)
    exact Post.pure (by rw [part_end])

theorem refStrong_F (sos : Int) (g : Nat → Int) (n k : Nat) (hn : n ≤ 4194304) (hk : k ≤ n) : ref14_strong_F (tab n g) (k : Int) sos = some (s2 sos g k) := by
  have key : ∀ k : Nat, k ≤ n → ∃ r : Sum Int Int, loopW (fun s : List Int × Int × Int => (ref14_strong_L2 s.1 s.2.1 s.2.2).run) (tab n g, sos, (k : Int) - 1) = some r ∧ (match r with | .inl a => a | .inr a => a) = s2 sos g k := by
    intro k
    induction k with
    | zero =>
      intro _
      refine ⟨.inl sos, loopW_done (Post.run ?_), rfl⟩
      unfold ref14_strong_L2
      dsimp only
      (first | refine Post.brT (by simp only [Bool.or_eq_true, Bool.and_eq_true, beq_iff_eq, bne_iff_ne, decide_eq_true_eq, ne_eq, Bool.not_eq_true', beq_eq_false_iff_ne, bne_eq_false_iff_eq, decide_eq_false_iff_not, Decidable.not_not, Bool.or_eq_false_iff, Bool.and_eq_false_iff, Bool.not_eq_false']; omega) ?_ | refine Post.brF (by simp only [Bool.or_eq_true, Bool.and_eq_true, beq_iff_eq, bne_iff_ne, decide_eq_true_eq, ne_eq, Bool.not_eq_true', beq_eq_false_iff_ne, bne_eq_false_iff_eq, decide_eq_false_iff_not, Decidable.not_not, Bool.or_eq_false_iff, Bool.and_eq_false_iff, Bool.not_eq_false']; omega) ?_)
      exact Post.pure rfl
    | succ k ih =>
      intro hk
      obtain ⟨r, h1, h2⟩ := ih (by omega)
      have f := s2_succ sos g k
      have ek : ((k + 1 : Nat) : Int) - 1 = (k : Int) := by omega
      rw [ek]
      by_cases hs : g k = 0 ∨ g k = 1 ∨ g k = 2
      · rw [if_pos hs] at f
        refine ⟨.inr (g k), loopW_done (Post.run ?_), f.symm⟩
        unfold ref14_strong_L2
        dsimp only
        (first | refine Post.brT (by simp only [Bool.or_eq_true, Bool.and_eq_true, beq_iff_eq, bne_iff_ne, decide_eq_true_eq, ne_eq, Bool.not_eq_true', beq_eq_false_iff_ne, bne_eq_false_iff_eq, decide_eq_false_iff_not, Decidable.not_not, Bool.or_eq_false_iff, Bool.and_eq_false_iff, Bool.not_eq_false']; omega) ?_ | refine Post.brF (by simp only [Bool.or_eq_true, Bool.and_eq_true, beq_iff_eq, bne_iff_ne, decide_eq_true_eq, ne_eq, Bool.not_eq_true', beq_eq_false_iff_ne, bne_eq_false_iff_eq, decide_eq_false_iff_not, Decidable.not_not, Bool.or_eq_false_iff, Bool.and_eq_false_iff, Bool.not_eq_false']; omega) ?_)
        (first | refine ptab _ rfl (by omega) ?_ | refine Post.bnd (idx_set_at (by omega) (by simp only [List.length_set, tab_len]; omega)) ?_)
        by_cases h0 : g k = 0
        · (first | refine Post.brT (by simp only [Bool.or_eq_true, Bool.and_eq_true, beq_iff_eq, bne_iff_ne, decide_eq_true_eq, ne_eq, Bool.not_eq_true', beq_eq_false_iff_ne, bne_eq_false_iff_eq, decide_eq_false_iff_not, Decidable.not_not, Bool.or_eq_false_iff, Bool.and_eq_false_iff, Bool.not_eq_false']; omega) ?_ | refine Post.brF (by simp only [Bool.or_eq_true, Bool.and_eq_true, beq_iff_eq, bne_iff_ne, decide_eq_true_eq, ne_eq, Bool.not_eq_true', beq_eq_false_iff_ne, bne_eq_false_iff_eq, decide_eq_false_iff_not, Decidable.not_not, Bool.or_eq_false_iff, Bool.and_eq_false_iff, Bool.not_eq_false']; omega) ?_)
          (first | refine ptab _ rfl (by omega) ?_ | refine Post.bnd (idx_set_at (by omega) (by simp only [List.length_set, tab_len]; omega)) ?_)
          exact Post.pure rfl
        · (first | refine Post.brT (by simp only [Bool.or_eq_true, Bool.and_eq_true, beq_iff_eq, bne_iff_ne, decide_eq_true_eq, ne_eq, Bool.not_eq_true', beq_eq_false_iff_ne, bne_eq_false_iff_eq, decide_eq_false_iff_not, Decidable.not_not, Bool.or_eq_false_iff, Bool.and_eq_false_iff, Bool.not_eq_false']; omega) ?_ | refine Post.brF (by simp only [Bool.or_eq_true, Bool.and_eq_true, beq_iff_eq, bne_iff_ne, decide_eq_true_eq, ne_eq, Bool.not_eq_true', beq_eq_false_iff_ne, bne_eq_false_iff_eq, decide_eq_false_iff_not, Decidable.not_not, Bool.or_eq_false_iff, Bool.and_eq_false_iff, Bool.not_eq_false']; omega) ?_)
          (first | refine ptab _ rfl (by omega) ?_ | refine Post.bnd (idx_set_at (by omega) (by simp only [List.length_set, tab_len]; omega)) ?_)
          by_cases h0 : g k = 1
          · (first | refine Post.brT (by simp only [Bool.or_eq_true, Bool.and_eq_true, beq_iff_eq, bne_iff_ne, decide_eq_true_eq, ne_eq, Bool.not_eq_true', beq_eq_false_iff_ne, bne_eq_false_iff_eq, decide_eq_false_iff_not, Decidable.not_not, Bool.or_eq_false_iff, Bool.and_eq_false_iff, Bool.not_eq_false']; omega) ?_ | refine Post.brF (by simp only [Bool.or_eq_true, Bool.and_eq_true, beq_iff_eq, bne_iff_ne, decide_eq_true_eq, ne_eq, Bool.not_eq_true', beq_eq_false_iff_ne, bne_eq_false_iff_eq, decide_eq_false_iff_not, Decidable.not_not, Bool.or_eq_false_iff, Bool.and_eq_false_iff, Bool.not_eq_false']; omega) ?_)
            (first | refine ptab _ rfl (by omega) ?_ | refine Post.bnd (idx_set_at (by omega) (by simp only [List.length_set, tab_len]; omega)) ?_)
            exact Post.pure rfl
          · (first | refine Post.brT (by simp only [Bool.or_eq_true, Bool.and_eq_true, beq_iff_eq, bne_iff_ne, decide_eq_true_eq, ne_eq, Bool.not_eq_true', beq_eq_false_iff_ne, bne_eq_false_iff_eq, decide_eq_false_iff_not, Decidable.not_not, Bool.or_eq_false_iff, Bool.and_eq_false_iff, Bool.not_eq_false']; omega) ?_ | refine Post.brF (by simp only [Bool.or_eq_true, Bool.and_eq_true, beq_iff_eq, bne_iff_ne, decide_eq_true_eq, ne_eq, Bool.not_eq_true', beq_eq_false_iff_ne, bne_eq_false_iff_eq, decide_eq_false_iff_not, Decidable.not_not, Bool.or_eq_false_iff, Bool.and_eq_false_iff, Bool.not_eq_false']; omega) ?_)
            (first | refine ptab _ rfl (by omega) ?_ | refine Post.bnd (idx_set_at (by omega) (by simp only [List.length_set, tab_len]; omega)) ?_)
            (first | refine Post.brT (by simp only [Bool.or_eq_true, Bool.and_eq_true, beq_iff_eq, bne_iff_ne, decide_eq_true_eq, ne_eq, Bool.not_eq_true', beq_eq_false_iff_ne, bne_eq_false_iff_eq, decide_eq_false_iff_not, Decidable.not_not, Bool.or_eq_false_iff, Bool.and_eq_false_iff, Bool.not_eq_false']; omega) ?_ | refine Post.brF (by simp only [Bool.or_eq_true, Bool.and_eq_true, beq_iff_eq, bne_iff_ne, decide_eq_true_eq, ne_eq, Bool.not_eq_true', beq_eq_false_iff_ne, bne_eq_false_iff_eq, decide_eq_false_iff_not, Decidable.not_not, Bool.or_eq_false_iff, Bool.and_eq_false_iff, Bool.not_eq_false']; omega) ?_)
            (first | refine ptab _ rfl (by omega) ?_ | refine Post.bnd (idx_set_at (by omega) (by simp only [List.length_set, tab_len]; omega)) ?_)
            exact Post.pure rfl
      · rw [if_neg hs] at f
        rw [f]
        refine ⟨r, loopW_next (Post.run ?_) h1, h2⟩
        unfold ref14_strong_L2
        dsimp only
        (first | refine Post.brT (by simp only [Bool.or_eq_true, Bool.and_eq_true, beq_iff_eq, bne_iff_ne, decide_eq_true_eq, ne_eq, Bool.not_eq_true', beq_eq_false_iff_ne, bne_eq_false_iff_eq, decide_eq_false_iff_not, Decidable.not_not, Bool.or_eq_false_iff, Bool.and_eq_false_iff, Bool.not_eq_false']; omega) ?_ | refine Post.brF (by simp only [Bool.or_eq_true, Bool.and_eq_true, beq_iff_eq, bne_iff_ne, decide_eq_true_eq, ne_eq, Bool.not_eq_true', beq_eq_false_iff_ne, bne_eq_false_iff_eq, decide_eq_false_iff_not, Decidable.not_not, Bool.or_eq_false_iff, Bool.and_eq_false_iff, Bool.not_eq_false']; omega) ?_)
        (first | refine ptab _ rfl (by omega) ?_ | refine Post.bnd (idx_set_at (by omega) (by simp only [List.length_set, tab_len]; omega)) ?_)
        (first | refine Post.brT (by simp only [Bool.or_eq_true, Bool.and_eq_true, beq_iff_eq, bne_iff_ne, decide_eq_true_eq, ne_eq, Bool.not_eq_true', beq_eq_false_iff_ne, bne_eq_false_iff_eq, decide_eq_false_iff_not, Decidable.not_not, Bool.or_eq_false_iff, Bool.and_eq_false_iff, Bool.not_eq_false']; omega) ?_ | refine Post.brF (by simp only [Bool.or_eq_true, Bool.and_eq_true, beq_iff_eq, bne_iff_ne, decide_eq_true_eq, ne_eq, Bool.not_eq_true', beq_eq_false_iff_ne, bne_eq_false_iff_eq, decide_eq_false_iff_not, Decidable.not_not, Bool.or_eq_false_iff, Bool.and_eq_false_iff, Bool.not_eq_false']; omega) ?_)
        (first | refine ptab _ rfl (by omega) ?_ | refine Post.bnd (idx_set_at (by omega) (by simp only [List.length_set, tab_len]; omega)) ?_)
        (first | refine Post.brT (by simp only [Bool.or_eq_true, Bool.and_eq_true, beq_iff_eq, bne_iff_ne, decide_eq_true_eq, ne_eq, Bool.not_eq_true', beq_eq_false_iff_ne, bne_eq_false_iff_eq, decide_eq_false_iff_not, Decidable.not_not, Bool.or_eq_false_iff, Bool.and_eq_false_iff, Bool.not_eq_false']; omega) ?_ | refine Post.brF (by simp only [Bool.or_eq_true, Bool.and_eq_true, beq_iff_eq, bne_iff_ne, decide_eq_true_eq, ne_eq, Bool.not_eq_true', beq_eq_false_iff_ne, bne_eq_false_iff_eq, decide_eq_false_iff_not, Decidable.not_not, Bool.or_eq_false_iff, Bool.and_eq_false_iff, Bool.not_eq_false']; omega) ?_)
        (first | refine ptab _ rfl (by omega) ?_ | refine Post.bnd (idx_set_at (by omega) (by simp only [List.length_set, tab_len]; omega)) ?_)
        (first | refine Post.brT (by simp only [Bool.or_eq_true, Bool.and_eq_true, beq_iff_eq, bne_iff_ne, decide_eq_true_eq, ne_eq, Bool.not_eq_true', beq_eq_false_iff_ne, bne_eq_false_iff_eq, decide_eq_false_iff_not, Decidable.not_not, Bool.or_eq_false_iff, Bool.and_eq_false_iff, Bool.not_eq_false']; omega) ?_ | refine Post.brF (by simp only [Bool.or_eq_true, Bool.and_eq_true, beq_iff_eq, bne_iff_ne, decide_eq_true_eq, ne_eq, Bool.not_eq_true', beq_eq_false_iff_ne, bne_eq_false_iff_eq, decide_eq_false_iff_not, Decidable.not_not, Bool.or_eq_false_iff, Bool.and_eq_false_iff, Bool.not_eq_false']; omega) ?_)
        exact Post.pure (by rw [wrap64 (by omega) (by omega)])
  obtain ⟨r, h1, h2⟩ := key k hk
  unfold ref14_strong_F ref14_strong_T
  rw [wrap64 (by omega) (by omega)]
  refine Post.run ?_
  cases r with
  | inl a => exact Post.altL h1 (Post.pure h2)
  | inr a => exact Post.altR h1 (Post.pure h2)

theorem rule2_F (sos : Int) (g : Nat → Int) (n : Nat) (hn : n ≤ 4194304) : ref14_rule2_F (tab n g) sos = some (tab n (m2 sos g)) := by
  unfold ref14_rule2_F ref14_rule2_T
  refine Post.run (Post.bnd (copied_F _ (by rw [tab_len]; exact hn)) (Post.bnd (count (L := fun s : List Int × Int × List Int × Int => ref14_rule2_L3 s.1 s.2.1 s.2.2.1 s.2.2.2) n (fun k => (tab n g, sos, tab n (part (m2 sos g) g k), (k : Int))) (r := tab n (m2 sos g)) rfl (fun k hk => ?_) ?_) (Post.pure rfl)))
  · dsimp only
    have e : m2 sos g k = if g k = 3 ∧ s2 sos g k = 2 then 6 else g k := rfl
    unfold ref14_rule2_L3
    rw [tab_len]
    (first | refine Post.brT (by simp only [Bool.or_eq_true, Bool.and_eq_true, beq_iff_eq, bne_iff_ne, decide_eq_true_eq, ne_eq, Bool.not_eq_true', beq_eq_false_iff_ne, bne_eq_false_iff_eq, decide_eq_false_iff_not, Decidable.not_not, Bool.or_eq_false_iff, Bool.and_eq_false_iff, Bool.not_eq_false']; omega) ?_ | refine Post.brF (by simp only [Bool.or_eq_true, Bool.and_eq_true, beq_iff_eq, bne_iff_ne, decide_eq_true_eq, ne_eq, Bool.not_eq_true', beq_eq_false_iff_ne, bne_eq_false_iff_eq, decide_eq_false_iff_not, Decidable.not_not, Bool.or_eq_false_iff, Bool.and_eq_false_iff, Bool.not_eq_false']; omega) ?_)
    (first | refine ptab _ rfl (by omega) ?_ | refine Post.bnd (idx_set_at (by omega) (by simp only [List.length_set, tab_len]; omega)) ?_)
    by_cases h1 : g k = 3
    · (first | refine Post.brT (by simp only [Bool.or_eq_true, Bool.and_eq_true, beq_iff_eq, bne_iff_ne, decide_eq_true_eq, ne_eq, Bool.not_eq_true', beq_eq_false_iff_ne, bne_eq_false_iff_eq, decide_eq_false_iff_not, Decidable.not_not, Bool.or_eq_false_iff, Bool.and_eq_false_iff, Bool.not_eq_false']; omega) ?_ | refine Post.brF (by simp only [Bool.or_eq_true, Bool.and_eq_true, beq_iff_eq, bne_iff_ne, decide_eq_true_eq, ne_eq, Bool.not_eq_true', beq_eq_false_iff_ne, bne_eq_false_iff_eq, decide_eq_false_iff_not, Decidable.not_not, Bool.or_eq_false_iff, Bool.and_eq_false_iff, Bool.not_eq_false']; omega) ?_)
      refine Post.bnd (refStrong_F sos g n k hn (by omega)) ?_
      by_cases h2 : s2 sos g k = 2
      · (first | refine Post.brT (by simp only [Bool.or_eq_true, Bool.and_eq_true, beq_iff_eq, bne_iff_ne, decide_eq_true_eq, ne_eq, Bool.not_eq_true', beq_eq_false_iff_ne, bne_eq_false_iff_eq, decide_eq_false_iff_not, Decidable.not_not, Bool.or_eq_false_iff, Bool.and_eq_false_iff, Bool.not_eq_false']; omega) ?_ | refine Post.brF (by simp only [Bool.or_eq_true, Bool.and_eq_true, beq_iff_eq, bne_iff_ne, decide_eq_true_eq, ne_eq, Bool.not_eq_true', beq_eq_false_iff_ne, bne_eq_false_iff_eq, decide_eq_false_iff_not, Decidable.not_not, Bool.or_eq_false_iff, Bool.and_eq_false_iff, Bool.not_eq_false']; omega) ?_)
        rw [if_pos ⟨h1, h2⟩] at e
        (first | refine ptab _ rfl (by omega) ?_ | refine Post.bnd (idx_set_at (by omega) (by simp only [List.length_set, tab_len]; omega)) ?_)
        exact Post.pure (by rw [toNat_nat, wrap_succ (by omega), part_set n e])
      · (first | refine Post.brT (by simp only [Bool.or_eq_true, Bool.and_eq_true, beq_iff_eq, bne_iff_ne, decide_eq_true_eq, ne_eq, Bool.not_eq_true', beq_eq_false_iff_ne, bne_eq_false_iff_eq, decide_eq_false_iff_not, Decidable.not_not, Bool.or_eq_false_iff, Bool.and_eq_false_iff, Bool.not_eq_false']; omega) ?_ | refine Post.brF (by simp only [Bool.or_eq_true, Bool.and_eq_true, beq_iff_eq, bne_iff_ne, decide_eq_true_eq, ne_eq, Bool.not_eq_true', beq_eq_false_iff_ne, bne_eq_false_iff_eq, decide_eq_false_iff_not, Decidable.not_not, Bool.or_eq_false_iff, Bool.and_eq_false_iff, Bool.not_eq_false']; omega) ?_)
        rw [if_neg (by omega)] at e
        exact Post.pure (by rw [wrap_succ (by omega), ← part_keep n e])
    · (first | refine Post.brT (by simp only [Bool.or_eq_true, Bool.and_eq_true, beq_iff_eq, bne_iff_ne, decide_eq_true_eq, ne_eq, Bool.not_eq_true', beq_eq_false_iff_ne, bne_eq_false_iff_eq, decide_eq_false_iff_not, Decidable.not_not, Bool.or_eq_false_iff, Bool.and_eq_false_iff, Bool.not_eq_false']; omega) ?_ | refine Post.brF (by simp only [Bool.or_eq_true, Bool.and_eq_true, beq_iff_eq, bne_iff_ne, decide_eq_true_eq, ne_eq, Bool.not_eq_true', beq_eq_false_iff_ne, bne_eq_false_iff_eq, decide_eq_false_iff_not, Decidable.not_not, Bool.or_eq_false_iff, Bool.and_eq_false_iff, Bool.not_eq_false']; omega) ?_)
      rw [if_neg (by omega)] at e
      exact Post.pure (by rw [wrap_succ (by omega), ← part_keep n e])
  · dsimp only
    unfold ref14_rule2_L3
    rw [tab_len]
    (first | refine Post.brT (by simp only [Bool.or_eq_true, Bool.and_eq_true, beq_iff_eq, bne_iff_ne, decide_eq_true_eq, ne_eq, Bool.not_eq_true', beq_eq_false_iff_ne, bne_eq_false_iff_eq, decide_eq_false_iff_not, Decidable.not_not, Bool.or_eq_false_iff, Bool.and_eq_false_iff, Bool.not_eq_false']; omega) ?_ | refine Post.brF (by simp only [Bool.or_eq_true, Bool.and_eq_true, beq_iff_eq, bne_iff_ne, decide_eq_true_eq, ne_eq, Bool.not_eq_true', beq_eq_false_iff_ne, bne_eq_false_iff_eq, decide_eq_false_iff_not, Decidable.not_not, Bool.or_eq_false_iff, Bool.and_eq_false_iff, Bool.not_eq_false']; omega) ?_)
    exact Post.pure (by rw [part_end])

/-! ### rule 3: arabic letters -/
def m3 (g : Nat → Int) (k : Nat) : Int := if g k = 2 then 1 else g k
theorem arabicLetters_F (g : Nat → Int) (n : Nat) (hn : n ≤ 4194304) : weak_arabicLetters_F (tab n g) = some (tab n (m3 g), ()) := by
  unfold weak_arabicLetters_F weak_arabicLetters_T
  rw [tab_len]
  refine Post.run (Post.bnd (count (L := fun s : List Int × Int × Int => weak_arabicLetters_L1 s.1 s.2.1 s.2.2) n (fun k => (tab n (part (m3 g) g k), (n : Int), (k : Int))) (r := tab n (m3 g)) rfl (fun k hk => ?_) ?_) (Post.pure rfl))
  · dsimp only
    have e : m3 g k = if g k = 2 then 1 else g k := rfl
    unfold weak_arabicLetters_L1
    (first | refine Post.brT (by simp only [Bool.or_eq_true, Bool.and_eq_true, beq_iff_eq, bne_iff_ne, decide_eq_true_eq, ne_eq, Bool.not_eq_true', beq_eq_false_iff_ne, bne_eq_false_iff_eq, decide_eq_false_iff_not, Decidable.not_not, Bool.or_eq_false_iff, Bool.and_eq_false_iff, Bool.not_eq_false']; omega) ?_ | refine Post.brF (by simp only [Bool.or_eq_true, Bool.and_eq_true, beq_iff_eq, bne_iff_ne, decide_eq_true_eq, ne_eq, Bool.not_eq_true', beq_eq_false_iff_ne, bne_eq_false_iff_eq, decide_eq_false_iff_not, Decidable.not_not, Bool.or_eq_false_iff, Bool.and_eq_false_iff, Bool.not_eq_false']; omega) ?_)
    (first | refine ptab _ rfl (by omega) ?_ | refine Post.bnd (idx_set_at (by omega) (by simp only [List.length_set, tab_len]; omega)) ?_)
    (first | refine ptab _ rfl (by omega) ?_ | refine Post.bnd (idx_set_at (by omega) (by simp only [List.length_set, tab_len]; omega)) ?_)
    rw [part_at]
    by_cases h1 : g k = 2
    · (first | refine Post.brT (by simp only [Bool.or_eq_true, Bool.and_eq_true, beq_iff_eq, bne_iff_ne, decide_eq_true_eq, ne_eq, Bool.not_eq_true', beq_eq_false_iff_ne, bne_eq_false_iff_eq, decide_eq_false_iff_not, Decidable.not_not, Bool.or_eq_false_iff, Bool.and_eq_false_iff, Bool.not_eq_false']; omega) ?_ | refine Post.brF (by simp only [Bool.or_eq_true, Bool.and_eq_true, beq_iff_eq, bne_iff_ne, decide_eq_true_eq, ne_eq, Bool.not_eq_true', beq_eq_false_iff_ne, bne_eq_false_iff_eq, decide_eq_false_iff_not, Decidable.not_not, Bool.or_eq_false_iff, Bool.and_eq_false_iff, Bool.not_eq_false']; omega) ?_)
      rw [if_pos h1] at e
      (first | refine ptab _ rfl (by omega) ?_ | refine Post.bnd (idx_set_at (by omega) (by simp only [List.length_set, tab_len]; omega)) ?_)
      (first | refine ptab _ rfl (by omega) ?_ | refine Post.bnd (idx_set_at (by omega) (by simp only [List.length_set, tab_len]; omega)) ?_)
      exact Post.pure (by rw [toNat_nat, wrap_succ (by omega), part_set n e])
    · (first | refine Post.brT (by simp only [Bool.or_eq_true, Bool.and_eq_true, beq_iff_eq, bne_iff_ne, decide_eq_true_eq, ne_eq, Bool.not_eq_true', beq_eq_false_iff_ne, bne_eq_false_iff_eq, decide_eq_false_iff_not, Decidable.not_not, Bool.or_eq_false_iff, Bool.and_eq_false_iff, Bool.not_eq_false']; omega) ?_ | refine Post.brF (by simp only [Bool.or_eq_true, Bool.and_eq_true, beq_iff_eq, bne_iff_ne, decide_eq_true_eq, ne_eq, Bool.not_eq_true', beq_eq_false_iff_ne, bne_eq_false_iff_eq, decide_eq_false_iff_not, Decidable.not_not, Bool.or_eq_false_iff, Bool.and_eq_false_iff, Bool.not_eq_false']; omega) ?_)
      rw [if_neg h1] at e
      exact Post.pure (by rw [wrap_succ (by omega), ← part_keep n e])
  · dsimp only
    unfold weak_arabicLetters_L1
    (first | refine Post.brT (by simp only [Bool.or_eq_true, Bool.and_eq_true, beq_iff_eq, bne_iff_ne, decide_eq_true_eq, ne_eq, Bool.not_eq_true', beq_eq_false_iff_ne, bne_eq_false_iff_eq, decide_eq_false_iff_not, Decidable.not_not, Bool.or_eq_false_iff, Bool.and_eq_false_iff, Bool.not_eq_false']; omega) ?_ | refine Post.brF (by simp only [Bool.or_eq_true, Bool.and_eq_true, beq_iff_eq, bne_iff_ne, decide_eq_true_eq, ne_eq, Bool.not_eq_true', beq_eq_false_iff_ne, bne_eq_false_iff_eq, decide_eq_false_iff_not, Decidable.not_not, Bool.or_eq_false_iff, Bool.and_eq_false_iff, Bool.not_eq_false']; omega) ?_)
    exact Post.pure (by rw [part_end])
theorem rule3_F (g : Nat → Int) (n : Nat) (hn : n ≤ 4194304) : ref14_rule3_F (tab n g) = some (tab n (m3 g)) := by
  unfold ref14_rule3_F ref14_rule3_T
  refine Post.run (Post.bnd (copied_F _ (by rw [tab_len]; exact hn)) (Post.bnd (count (L := fun s : List Int × Int => ref14_rule3_L3 s.1 s.2) n (fun k => (tab n (part (m3 g) g k), (k : Int))) (r := tab n (m3 g)) rfl (fun k hk => ?_) ?_) (Post.pure rfl)))
  · dsimp only
    have e : m3 g k = if g k = 2 then 1 else g k := rfl
    unfold ref14_rule3_L3
    rw [tab_len]
    (first | refine Post.brT (by simp only [Bool.or_eq_true, Bool.and_eq_true, beq_iff_eq, bne_iff_ne, decide_eq_true_eq, ne_eq, Bool.not_eq_true', beq_eq_false_iff_ne, bne_eq_false_iff_eq, decide_eq_false_iff_not, Decidable.not_not, Bool.or_eq_false_iff, Bool.and_eq_false_iff, Bool.not_eq_false']; omega) ?_ | refine Post.brF (by simp only [Bool.or_eq_true, Bool.and_eq_true, beq_iff_eq, bne_iff_ne, decide_eq_true_eq, ne_eq, Bool.not_eq_true', beq_eq_false_iff_ne, bne_eq_false_iff_eq, decide_eq_false_iff_not, Decidable.not_not, Bool.or_eq_false_iff, Bool.and_eq_false_iff, Bool.not_eq_false']; omega) ?_)
    (first | refine ptab _ rfl (by omega) ?_ | refine Post.bnd (idx_set_at (by omega) (by simp only [List.length_set, tab_len]; omega)) ?_)
    rw [part_at]
    by_cases h1 : g k = 2
    · (first | refine Post.brT (by simp only [Bool.or_eq_true, Bool.and_eq_true, beq_iff_eq, bne_iff_ne, decide_eq_true_eq, ne_eq, Bool.not_eq_true', beq_eq_false_iff_ne, bne_eq_false_iff_eq, decide_eq_false_iff_not, Decidable.not_not, Bool.or_eq_false_iff, Bool.and_eq_false_iff, Bool.not_eq_false']; omega) ?_ | refine Post.brF (by simp only [Bool.or_eq_true, Bool.and_eq_true, beq_iff_eq, bne_iff_ne, decide_eq_true_eq, ne_eq, Bool.not_eq_true', beq_eq_false_iff_ne, bne_eq_false_iff_eq, decide_eq_false_iff_not, Decidable.not_not, Bool.or_eq_false_iff, Bool.and_eq_false_iff, Bool.not_eq_false']; omega) ?_)
      rw [if_pos h1] at e
      (first | refine ptab _ rfl (by omega) ?_ | refine Post.bnd (idx_set_at (by omega) (by simp only [List.length_set, tab_len]; omega)) ?_)
      exact Post.pure (by rw [toNat_nat, wrap_succ (by omega), part_set n e])
    · (first | refine Post.brT (by simp only [Bool.or_eq_true, Bool.and_eq_true, beq_iff_eq, bne_iff_ne, decide_eq_true_eq, ne_eq, Bool.not_eq_true', beq_eq_false_iff_ne, bne_eq_false_iff_eq, decide_eq_false_iff_not, Decidable.not_not, Bool.or_eq_false_iff, Bool.and_eq_false_iff, Bool.not_eq_false']; omega) ?_ | refine Post.brF (by simp only [Bool.or_eq_true, Bool.and_eq_true, beq_iff_eq, bne_iff_ne, decide_eq_true_eq, ne_eq, Bool.not_eq_true', beq_eq_false_iff_ne, bne_eq_false_iff_eq, decide_eq_false_iff_not, Decidable.not_not, Bool.or_eq_false_iff, Bool.and_eq_false_iff, Bool.not_eq_false']; omega) ?_)
      rw [if_neg h1] at e
      exact Post.pure (by rw [wrap_succ (by omega), ← part_keep n e])
  · dsimp only
    unfold ref14_rule3_L3
    rw [tab_len]
    (first | refine Post.brT (by simp only [Bool.or_eq_true, Bool.and_eq_true, beq_iff_eq, bne_iff_ne, decide_eq_true_eq, ne_eq, Bool.not_eq_true', beq_eq_false_iff_ne, bne_eq_false_iff_eq, decide_eq_false_iff_not, Decidable.not_not, Bool.or_eq_false_iff, Bool.and_eq_false_iff, Bool.not_eq_false']; omega) ?_ | refine Post.brF (by simp only [Bool.or_eq_true, Bool.and_eq_true, beq_iff_eq, bne_iff_ne, decide_eq_true_eq, ne_eq, Bool.not_eq_true', beq_eq_false_iff_ne, bne_eq_false_iff_eq, decide_eq_false_iff_not, Decidable.not_not, Bool.or_eq_false_iff, Bool.and_eq_false_iff, Bool.not_eq_false']; omega) ?_)
    exact Post.pure (by rw [part_end])

/-! ### rule 4: separators -/
def Jn (a b : Int) : Prop := b = 3 ∧ (a = 4 ∨ a = 7) ∨ b = 6 ∧ a = 7
instance (a b : Int) : Decidable (Jn a b) := by unfold Jn; infer_instance
def m4 (n : Nat) (g : Nat → Int) : Nat → Int
  | 0 => g 0
  | i + 1 => if i + 2 < n ∧ g (i + 2) = m4 n g i ∧ Jn (g (i + 1)) (m4 n g i) then m4 n g i else g (i + 1)
theorem m4_eq {sos : Int} (hs : sos = 0 ∨ sos = 1) (n : Nat) (g : Nat → Int) (k : Nat) : m4 n g k = if k + 1 < n ∧ g (k + 1) = prev sos (m4 n g) k ∧ Jn (g k) (prev sos (m4 n g) k) then prev sos (m4 n g) k else g k := by
  cases k with
  | zero =>
    rw [if_neg (fun h => by have h2 : Jn (g 0) sos := h.2.2; unfold Jn at h2; omega)]; rfl
  | succ k => rfl

theorem separators_F (sos : Int) (hs : sos = 0 ∨ sos = 1) (g : Nat → Int) (n : Nat) (hn : n ≤ 4194304) : weak_separators_F (tab n g) sos = some (tab n (m4 n g), ()) := by
  unfold weak_separators_F weak_separators_T
  rw [tab_len]
  refine Post.run (Post.bnd (count (L := fun s : List Int × Int × Int × Int => weak_separators_L2 s.1 s.2.1 s.2.2.1 s.2.2.2) n (fun k => (tab n (part (m4 n g) g k), prev sos (m4 n g) k, (n : Int), (k : Int))) (r := tab n (m4 n g)) rfl (fun k hk => ?_) ?_) (Post.pure rfl))
  · dsimp only
    have e := m4_eq hs n g k
    have f : prev sos (m4 n g) (k + 1) = m4 n g k := rfl
    unfold weak_separators_L2
    rw [tab_len, wrap_succ (by omega)]
    (first | refine Post.brT (by simp only [Bool.or_eq_true, Bool.and_eq_true, beq_iff_eq, bne_iff_ne, decide_eq_true_eq, ne_eq, Bool.not_eq_true', beq_eq_false_iff_ne, bne_eq_false_iff_eq, decide_eq_false_iff_not, Decidable.not_not, Bool.or_eq_false_iff, Bool.and_eq_false_iff, Bool.not_eq_false']; omega) ?_ | refine Post.brF (by simp only [Bool.or_eq_true, Bool.and_eq_true, beq_iff_eq, bne_iff_ne, decide_eq_true_eq, ne_eq, Bool.not_eq_true', beq_eq_false_iff_ne, bne_eq_false_iff_eq, decide_eq_false_iff_not, Decidable.not_not, Bool.or_eq_false_iff, Bool.and_eq_false_iff, Bool.not_eq_false']; omega) ?_)
    (first | refine ptab _ rfl (by omega) ?_ | refine Post.bnd (idx_set_at (by omega) (by simp only [List.length_set, tab_len]; omega)) ?_)
    (first | refine ptab _ rfl (by omega) ?_ | refine Post.bnd (idx_set_at (by omega) (by simp only [List.length_set, tab_len]; omega)) ?_)
    rw [part_at]
    have keep : m4 n g k = g k → Post (Tr.bnd (idx (tab n (part (m4 n g) g k)) (k : Int)) fun _ => .bnd (idx (tab n (part (m4 n g) g k)) (k : Int)) fun x => .pure (.next (tab n (part (m4 n g) g k), x, (n : Int), ((k + 1 : Nat) : Int)))) (· = (Lap.next (tab n (part (m4 n g) g (k + 1)), prev sos (m4 n g) (k + 1), (n : Int), ((k + 1 : Nat) : Int)) : Lap (List Int × Int × Int × Int) (List Int))) := by
      intro e
      (first | refine ptab _ rfl (by omega) ?_ | refine Post.bnd (idx_set_at (by omega) (by simp only [List.length_set, tab_len]; omega)) ?_)
      (first | refine ptab _ rfl (by omega) ?_ | refine Post.bnd (idx_set_at (by omega) (by simp only [List.length_set, tab_len]; omega)) ?_)
      exact Post.pure (by rw [part_at, ← part_keep n e, f, e])
    by_cases h1 : k + 1 < n
    · (first | refine Post.brT (by simp only [Bool.or_eq_true, Bool.and_eq_true, beq_iff_eq, bne_iff_ne, decide_eq_true_eq, ne_eq, Bool.not_eq_true', beq_eq_false_iff_ne, bne_eq_false_iff_eq, decide_eq_false_iff_not, Decidable.not_not, Bool.or_eq_false_iff, Bool.and_eq_false_iff, Bool.not_eq_false']; omega) ?_ | refine Post.brF (by simp only [Bool.or_eq_true, Bool.and_eq_true, beq_iff_eq, bne_iff_ne, decide_eq_true_eq, ne_eq, Bool.not_eq_true', beq_eq_false_iff_ne, bne_eq_false_iff_eq, decide_eq_false_iff_not, Decidable.not_not, Bool.or_eq_false_iff, Bool.and_eq_false_iff, Bool.not_eq_false']; omega) ?_)
      refine ptab (k + 1) rfl h1 (ptab (k + 1) rfl h1 ?_)
      rw [part_ge _ _ (by omega)]
      by_cases h2 : g (k + 1) = prev sos (m4 n g) k
      · refine Post.brT (by rw [beq_iff_eq]; exact h2) (Post.bnd (joins_F _ _) ?_)
        by_cases h3 : Jn (g k) (prev sos (m4 n g) k)
        · rw [if_pos ⟨h1, h2, h3⟩] at e
          unfold Jn at h3
          (first | refine Post.brT (by simp only [Bool.or_eq_true, Bool.and_eq_true, beq_iff_eq, bne_iff_ne, decide_eq_true_eq, ne_eq, Bool.not_eq_true', beq_eq_false_iff_ne, bne_eq_false_iff_eq, decide_eq_false_iff_not, Decidable.not_not, Bool.or_eq_false_iff, Bool.and_eq_false_iff, Bool.not_eq_false']; omega) ?_ | refine Post.brF (by simp only [Bool.or_eq_true, Bool.and_eq_true, beq_iff_eq, bne_iff_ne, decide_eq_true_eq, ne_eq, Bool.not_eq_true', beq_eq_false_iff_ne, bne_eq_false_iff_eq, decide_eq_false_iff_not, Decidable.not_not, Bool.or_eq_false_iff, Bool.and_eq_false_iff, Bool.not_eq_false']; omega) ?_)
          (first | refine ptab _ rfl (by omega) ?_ | refine Post.bnd (idx_set_at (by omega) (by simp only [List.length_set, tab_len]; omega)) ?_)
          (first | refine ptab _ rfl (by omega) ?_ | refine Post.bnd (idx_set_at (by omega) (by simp only [List.length_set, tab_len]; omega)) ?_)
          (first | refine ptab _ rfl (by omega) ?_ | refine Post.bnd (idx_set_at (by omega) (by simp only [List.length_set, tab_len]; omega)) ?_)
          (first | refine ptab _ rfl (by omega) ?_ | refine Post.bnd (idx_set_at (by omega) (by simp only [List.length_set, tab_len]; omega)) ?_)
          exact Post.pure (by rw [toNat_nat, part_set n e, f, e])
        · rw [if_neg (fun h => h3 h.2.2)] at e
          unfold Jn at h3
          (first | refine Post.brT (by simp only [Bool.or_eq_true, Bool.and_eq_true, beq_iff_eq, bne_iff_ne, decide_eq_true_eq, ne_eq, Bool.not_eq_true', beq_eq_false_iff_ne, bne_eq_false_iff_eq, decide_eq_false_iff_not, Decidable.not_not, Bool.or_eq_false_iff, Bool.and_eq_false_iff, Bool.not_eq_false']; omega) ?_ | refine Post.brF (by simp only [Bool.or_eq_true, Bool.and_eq_true, beq_iff_eq, bne_iff_ne, decide_eq_true_eq, ne_eq, Bool.not_eq_true', beq_eq_false_iff_ne, bne_eq_false_iff_eq, decide_eq_false_iff_not, Decidable.not_not, Bool.or_eq_false_iff, Bool.and_eq_false_iff, Bool.not_eq_false']; omega) ?_)
          exact keep e
      · rw [if_neg (fun h => h2 h.2.1)] at e
        refine Post.brF (by rw [beq_eq_false_iff_ne]; exact h2) (keep e)
    · (first | refine Post.brT (by simp only [Bool.or_eq_true, Bool.and_eq_true, beq_iff_eq, bne_iff_ne, decide_eq_true_eq, ne_eq, Bool.not_eq_true', beq_eq_false_iff_ne, bne_eq_false_iff_eq, decide_eq_false_iff_not, Decidable.not_not, Bool.or_eq_false_iff, Bool.and_eq_false_iff, Bool.not_eq_false']; omega) ?_ | refine Post.brF (by simp only [Bool.or_eq_true, Bool.and_eq_true, beq_iff_eq, bne_iff_ne, decide_eq_true_eq, ne_eq, Bool.not_eq_true', beq_eq_false_iff_ne, bne_eq_false_iff_eq, decide_eq_false_iff_not, Decidable.not_not, Bool.or_eq_false_iff, Bool.and_eq_false_iff, Bool.not_eq_false']; omega) ?_)
      rw [if_neg (fun h => h1 h.1)] at e
      exact keep e
  · dsimp only
    unfold weak_separators_L2
    (first | refine Post.brT (by simp only [Bool.or_eq_true, Bool.and_eq_true, beq_iff_eq, bne_iff_ne, decide_eq_true_eq, ne_eq, Bool.not_eq_true', beq_eq_false_iff_ne, bne_eq_false_iff_eq, decide_eq_false_iff_not, Decidable.not_not, Bool.or_eq_false_iff, Bool.and_eq_false_iff, Bool.not_eq_false']; omega) ?_ | refine Post.brF (by simp only [Bool.or_eq_true, Bool.and_eq_true, beq_iff_eq, bne_iff_ne, decide_eq_true_eq, ne_eq, Bool.not_eq_true', beq_eq_false_iff_ne, bne_eq_false_iff_eq, decide_eq_false_iff_not, Decidable.not_not, Bool.or_eq_false_iff, Bool.and_eq_false_iff, Bool.not_eq_false']; omega) ?_)
    exact Post.pure (by rw [part_end])

theorem behind_F (cs : Nat → Int) (n k : Nat) (hn : n ≤ 4194304) (hk : k ≤ n) : ref14_behind_F (tab n cs) (k : Int) = some (if k + 1 < n then cs (k + 1) else -1) := by
  unfold ref14_behind_F ref14_behind_T
  rw [tab_len, wrap_succ (by omega)]
  refine Post.run ?_
  by_cases h : k + 1 < n
  · rw [if_pos h]
    (first | refine Post.brT (by simp only [Bool.or_eq_true, Bool.and_eq_true, beq_iff_eq, bne_iff_ne, decide_eq_true_eq, ne_eq, Bool.not_eq_true', beq_eq_false_iff_ne, bne_eq_false_iff_eq, decide_eq_false_iff_not, Decidable.not_not, Bool.or_eq_false_iff, Bool.and_eq_false_iff, Bool.not_eq_false']; omega) ?_ | refine Post.brF (by simp only [Bool.or_eq_true, Bool.and_eq_true, beq_iff_eq, bne_iff_ne, decide_eq_true_eq, ne_eq, Bool.not_eq_true', beq_eq_false_iff_ne, bne_eq_false_iff_eq, decide_eq_false_iff_not, Decidable.not_not, Bool.or_eq_false_iff, Bool.and_eq_false_iff, Bool.not_eq_false']; omega) ?_)
    exact ptab (k + 1) rfl h (Post.pure rfl)
  · rw [if_neg h]
    (first | refine Post.brT (by simp only [Bool.or_eq_true, Bool.and_eq_true, beq_iff_eq, bne_iff_ne, decide_eq_true_eq, ne_eq, Bool.not_eq_true', beq_eq_false_iff_ne, bne_eq_false_iff_eq, decide_eq_false_iff_not, Decidable.not_not, Bool.or_eq_false_iff, Bool.and_eq_false_iff, Bool.not_eq_false']; omega) ?_ | refine Post.brF (by simp only [Bool.or_eq_true, Bool.and_eq_true, beq_iff_eq, bne_iff_ne, decide_eq_true_eq, ne_eq, Bool.not_eq_true', beq_eq_false_iff_ne, bne_eq_false_iff_eq, decide_eq_false_iff_not, Decidable.not_not, Bool.or_eq_false_iff, Bool.and_eq_false_iff, Bool.not_eq_false']; omega) ?_)
    exact Post.pure rfl

theorem rule4_F (g : Nat → Int) (n : Nat) (hn : n ≤ 4194304) : ref14_rule4_F (tab n g) = some (tab n (m4 n g)) := by
  unfold ref14_rule4_F ref14_rule4_T
  refine Post.run (Post.bnd (copied_F _ (by rw [tab_len]; exact hn)) (Post.bnd (count (L := fun s : List Int × Int => ref14_rule4_L3 s.1 s.2) (n - 1) (fun k => (tab n (part (m4 n g) g (k + 1)), ((k + 1 : Nat) : Int))) (r := tab n (m4 n g)) ?_ (fun k hk => ?_) ?_) (Post.pure rfl)))
  · rw [← part_zero n (m4 n g) g, part_keep n (show m4 n g 0 = g 0 from rfl)]; rfl
  · dsimp only
    have e : m4 n g (k + 1) = if k + 2 < n ∧ g (k + 2) = m4 n g k ∧ Jn (g (k + 1)) (m4 n g k) then m4 n g k else g (k + 1) := rfl
    unfold ref14_rule4_L3
    rw [tab_len]
    (first | refine Post.brT (by simp only [Bool.or_eq_true, Bool.and_eq_true, beq_iff_eq, bne_iff_ne, decide_eq_true_eq, ne_eq, Bool.not_eq_true', beq_eq_false_iff_ne, bne_eq_false_iff_eq, decide_eq_false_iff_not, Decidable.not_not, Bool.or_eq_false_iff, Bool.and_eq_false_iff, Bool.not_eq_false']; omega) ?_ | refine Post.brF (by simp only [Bool.or_eq_true, Bool.and_eq_true, beq_iff_eq, bne_iff_ne, decide_eq_true_eq, ne_eq, Bool.not_eq_true', beq_eq_false_iff_ne, bne_eq_false_iff_eq, decide_eq_false_iff_not, Decidable.not_not, Bool.or_eq_false_iff, Bool.and_eq_false_iff, Bool.not_eq_false']; omega) ?_)
    refine ptab k (by rw [wrap64 (by omega) (by omega)]; omega) (by omega) (Post.bnd (behind_F _ n (k + 1) hn (by omega)) ?_)
    rw [part_lt _ _ (by omega), part_ge _ _ (by omega)]
    generalize hb : (if k + 1 + 1 < n then g (k + 1 + 1) else -1) = b
    have hb' : (k + 2 < n ∧ g (k + 2) = b) ∨ (¬ k + 2 < n ∧ b = -1) := by
      by_cases h : k + 2 < n
      · rw [if_pos h] at hb; exact .inl ⟨h, hb⟩
      · rw [if_neg h] at hb; exact .inr ⟨h, hb.symm⟩
    clear hb
    generalize ha : m4 n g k = a at *
    refine ptab (k + 1) rfl (by omega) ?_
    rw [part_at]
    have set : ∀ {v : Int}, m4 n g (k + 1) = v → (Lap.next ((tab n (part (m4 n g) g (k + 1))).set (Int.toNat ((k + 1 : Nat) : Int)) v, IntKind.i64.wrap (((k + 1 : Nat) : Int) + 1)) : Lap (List Int × Int) (List Int)) = Lap.next (tab n (part (m4 n g) g (k + 1 + 1)), ((k + 1 + 1 : Nat) : Int)) := fun e => by rw [toNat_nat, wrap_succ (by omega), part_set n e]
    have keep : m4 n g (k + 1) = g (k + 1) → (Lap.next (tab n (part (m4 n g) g (k + 1)), IntKind.i64.wrap (((k + 1 : Nat) : Int) + 1)) : Lap (List Int × Int) (List Int)) = Lap.next (tab n (part (m4 n g) g (k + 1 + 1)), ((k + 1 + 1 : Nat) : Int)) := fun e => by rw [wrap_succ (by omega), ← part_keep n e]
    by_cases h1 : g (k + 1) = 4 ∧ a = 3 ∧ b = 3
    · rw [if_pos ⟨by omega, by omega, .inl ⟨by omega, by omega⟩⟩] at e
      (first | refine Post.brT (by simp only [Bool.or_eq_true, Bool.and_eq_true, beq_iff_eq, bne_iff_ne, decide_eq_true_eq, ne_eq, Bool.not_eq_true', beq_eq_false_iff_ne, bne_eq_false_iff_eq, decide_eq_false_iff_not, Decidable.not_not, Bool.or_eq_false_iff, Bool.and_eq_false_iff, Bool.not_eq_false']; omega) ?_ | refine Post.brF (by simp only [Bool.or_eq_true, Bool.and_eq_true, beq_iff_eq, bne_iff_ne, decide_eq_true_eq, ne_eq, Bool.not_eq_true', beq_eq_false_iff_ne, bne_eq_false_iff_eq, decide_eq_false_iff_not, Decidable.not_not, Bool.or_eq_false_iff, Bool.and_eq_false_iff, Bool.not_eq_false']; omega) ?_)
      (first | refine Post.brT (by simp only [Bool.or_eq_true, Bool.and_eq_true, beq_iff_eq, bne_iff_ne, decide_eq_true_eq, ne_eq, Bool.not_eq_true', beq_eq_false_iff_ne, bne_eq_false_iff_eq, decide_eq_false_iff_not, Decidable.not_not, Bool.or_eq_false_iff, Bool.and_eq_false_iff, Bool.not_eq_false']; omega) ?_ | refine Post.brF (by simp only [Bool.or_eq_true, Bool.and_eq_true, beq_iff_eq, bne_iff_ne, decide_eq_true_eq, ne_eq, Bool.not_eq_true', beq_eq_false_iff_ne, bne_eq_false_iff_eq, decide_eq_false_iff_not, Decidable.not_not, Bool.or_eq_false_iff, Bool.and_eq_false_iff, Bool.not_eq_false']; omega) ?_)
      (first | refine Post.brT (by simp only [Bool.or_eq_true, Bool.and_eq_true, beq_iff_eq, bne_iff_ne, decide_eq_true_eq, ne_eq, Bool.not_eq_true', beq_eq_false_iff_ne, bne_eq_false_iff_eq, decide_eq_false_iff_not, Decidable.not_not, Bool.or_eq_false_iff, Bool.and_eq_false_iff, Bool.not_eq_false']; omega) ?_ | refine Post.brF (by simp only [Bool.or_eq_true, Bool.and_eq_true, beq_iff_eq, bne_iff_ne, decide_eq_true_eq, ne_eq, Bool.not_eq_true', beq_eq_false_iff_ne, bne_eq_false_iff_eq, decide_eq_false_iff_not, Decidable.not_not, Bool.or_eq_false_iff, Bool.and_eq_false_iff, Bool.not_eq_false']; omega) ?_)
      refine ptab (k + 1) rfl (by omega) (Post.bnd (idx_set_at (by omega) (by rw [tab_len]; omega)) ?_)
      (first | refine Post.brT (by simp only [Bool.or_eq_true, Bool.and_eq_true, beq_iff_eq, bne_iff_ne, decide_eq_true_eq, ne_eq, Bool.not_eq_true', beq_eq_false_iff_ne, bne_eq_false_iff_eq, decide_eq_false_iff_not, Decidable.not_not, Bool.or_eq_false_iff, Bool.and_eq_false_iff, Bool.not_eq_false']; omega) ?_ | refine Post.brF (by simp only [Bool.or_eq_true, Bool.and_eq_true, beq_iff_eq, bne_iff_ne, decide_eq_true_eq, ne_eq, Bool.not_eq_true', beq_eq_false_iff_ne, bne_eq_false_iff_eq, decide_eq_false_iff_not, Decidable.not_not, Bool.or_eq_false_iff, Bool.and_eq_false_iff, Bool.not_eq_false']; omega) ?_)
      exact Post.pure (set (by omega))
    · by_cases h2 : g (k + 1) = 7 ∧ a = 3 ∧ b = 3
      · rw [if_pos ⟨by omega, by omega, .inl ⟨by omega, by omega⟩⟩] at e
        (first | refine Post.brT (by simp only [Bool.or_eq_true, Bool.and_eq_true, beq_iff_eq, bne_iff_ne, decide_eq_true_eq, ne_eq, Bool.not_eq_true', beq_eq_false_iff_ne, bne_eq_false_iff_eq, decide_eq_false_iff_not, Decidable.not_not, Bool.or_eq_false_iff, Bool.and_eq_false_iff, Bool.not_eq_false']; omega) ?_ | refine Post.brF (by simp only [Bool.or_eq_true, Bool.and_eq_true, beq_iff_eq, bne_iff_ne, decide_eq_true_eq, ne_eq, Bool.not_eq_true', beq_eq_false_iff_ne, bne_eq_false_iff_eq, decide_eq_false_iff_not, Decidable.not_not, Bool.or_eq_false_iff, Bool.and_eq_false_iff, Bool.not_eq_false']; omega) ?_)
        refine ptab (k + 1) rfl (by omega) ?_
        rw [part_at]
        (first | refine Post.brT (by simp only [Bool.or_eq_true, Bool.and_eq_true, beq_iff_eq, bne_iff_ne, decide_eq_true_eq, ne_eq, Bool.not_eq_true', beq_eq_false_iff_ne, bne_eq_false_iff_eq, decide_eq_false_iff_not, Decidable.not_not, Bool.or_eq_false_iff, Bool.and_eq_false_iff, Bool.not_eq_false']; omega) ?_ | refine Post.brF (by simp only [Bool.or_eq_true, Bool.and_eq_true, beq_iff_eq, bne_iff_ne, decide_eq_true_eq, ne_eq, Bool.not_eq_true', beq_eq_false_iff_ne, bne_eq_false_iff_eq, decide_eq_false_iff_not, Decidable.not_not, Bool.or_eq_false_iff, Bool.and_eq_false_iff, Bool.not_eq_false']; omega) ?_)
        (first | refine Post.brT (by simp only [Bool.or_eq_true, Bool.and_eq_true, beq_iff_eq, bne_iff_ne, decide_eq_true_eq, ne_eq, Bool.not_eq_true', beq_eq_false_iff_ne, bne_eq_false_iff_eq, decide_eq_false_iff_not, Decidable.not_not, Bool.or_eq_false_iff, Bool.and_eq_false_iff, Bool.not_eq_false']; omega) ?_ | refine Post.brF (by simp only [Bool.or_eq_true, Bool.and_eq_true, beq_iff_eq, bne_iff_ne, decide_eq_true_eq, ne_eq, Bool.not_eq_true', beq_eq_false_iff_ne, bne_eq_false_iff_eq, decide_eq_false_iff_not, Decidable.not_not, Bool.or_eq_false_iff, Bool.and_eq_false_iff, Bool.not_eq_false']; omega) ?_)
        (first | refine Post.brT (by simp only [Bool.or_eq_true, Bool.and_eq_true, beq_iff_eq, bne_iff_ne, decide_eq_true_eq, ne_eq, Bool.not_eq_true', beq_eq_false_iff_ne, bne_eq_false_iff_eq, decide_eq_false_iff_not, Decidable.not_not, Bool.or_eq_false_iff, Bool.and_eq_false_iff, Bool.not_eq_false']; omega) ?_ | refine Post.brF (by simp only [Bool.or_eq_true, Bool.and_eq_true, beq_iff_eq, bne_iff_ne, decide_eq_true_eq, ne_eq, Bool.not_eq_true', beq_eq_false_iff_ne, bne_eq_false_iff_eq, decide_eq_false_iff_not, Decidable.not_not, Bool.or_eq_false_iff, Bool.and_eq_false_iff, Bool.not_eq_false']; omega) ?_)
        exact ptab (k + 1) rfl (by omega) (Post.pure (set e))
      · by_cases h3 : g (k + 1) = 7 ∧ a = 6 ∧ b = 6
        · rw [if_pos ⟨by omega, by omega, .inr ⟨by omega, by omega⟩⟩] at e
          (first | refine Post.brT (by simp only [Bool.or_eq_true, Bool.and_eq_true, beq_iff_eq, bne_iff_ne, decide_eq_true_eq, ne_eq, Bool.not_eq_true', beq_eq_false_iff_ne, bne_eq_false_iff_eq, decide_eq_false_iff_not, Decidable.not_not, Bool.or_eq_false_iff, Bool.and_eq_false_iff, Bool.not_eq_false']; omega) ?_ | refine Post.brF (by simp only [Bool.or_eq_true, Bool.and_eq_true, beq_iff_eq, bne_iff_ne, decide_eq_true_eq, ne_eq, Bool.not_eq_true', beq_eq_false_iff_ne, bne_eq_false_iff_eq, decide_eq_false_iff_not, Decidable.not_not, Bool.or_eq_false_iff, Bool.and_eq_false_iff, Bool.not_eq_false']; omega) ?_)
          refine ptab (k + 1) rfl (by omega) ?_
          rw [part_at]
          (first | refine Post.brT (by simp only [Bool.or_eq_true, Bool.and_eq_true, beq_iff_eq, bne_iff_ne, decide_eq_true_eq, ne_eq, Bool.not_eq_true', beq_eq_false_iff_ne, bne_eq_false_iff_eq, decide_eq_false_iff_not, Decidable.not_not, Bool.or_eq_false_iff, Bool.and_eq_false_iff, Bool.not_eq_false']; omega) ?_ | refine Post.brF (by simp only [Bool.or_eq_true, Bool.and_eq_true, beq_iff_eq, bne_iff_ne, decide_eq_true_eq, ne_eq, Bool.not_eq_true', beq_eq_false_iff_ne, bne_eq_false_iff_eq, decide_eq_false_iff_not, Decidable.not_not, Bool.or_eq_false_iff, Bool.and_eq_false_iff, Bool.not_eq_false']; omega) ?_)
          (first | refine Post.brT (by simp only [Bool.or_eq_true, Bool.and_eq_true, beq_iff_eq, bne_iff_ne, decide_eq_true_eq, ne_eq, Bool.not_eq_true', beq_eq_false_iff_ne, bne_eq_false_iff_eq, decide_eq_false_iff_not, Decidable.not_not, Bool.or_eq_false_iff, Bool.and_eq_false_iff, Bool.not_eq_false']; omega) ?_ | refine Post.brF (by simp only [Bool.or_eq_true, Bool.and_eq_true, beq_iff_eq, bne_iff_ne, decide_eq_true_eq, ne_eq, Bool.not_eq_true', beq_eq_false_iff_ne, bne_eq_false_iff_eq, decide_eq_false_iff_not, Decidable.not_not, Bool.or_eq_false_iff, Bool.and_eq_false_iff, Bool.not_eq_false']; omega) ?_)
          (first | refine Post.brT (by simp only [Bool.or_eq_true, Bool.and_eq_true, beq_iff_eq, bne_iff_ne, decide_eq_true_eq, ne_eq, Bool.not_eq_true', beq_eq_false_iff_ne, bne_eq_false_iff_eq, decide_eq_false_iff_not, Decidable.not_not, Bool.or_eq_false_iff, Bool.and_eq_false_iff, Bool.not_eq_false']; omega) ?_ | refine Post.brF (by simp only [Bool.or_eq_true, Bool.and_eq_true, beq_iff_eq, bne_iff_ne, decide_eq_true_eq, ne_eq, Bool.not_eq_true', beq_eq_false_iff_ne, bne_eq_false_iff_eq, decide_eq_false_iff_not, Decidable.not_not, Bool.or_eq_false_iff, Bool.and_eq_false_iff, Bool.not_eq_false']; omega) ?_)
          (first | refine Post.brT (by simp only [Bool.or_eq_true, Bool.and_eq_true, beq_iff_eq, bne_iff_ne, decide_eq_true_eq, ne_eq, Bool.not_eq_true', beq_eq_false_iff_ne, bne_eq_false_iff_eq, decide_eq_false_iff_not, Decidable.not_not, Bool.or_eq_false_iff, Bool.and_eq_false_iff, Bool.not_eq_false']; omega) ?_ | refine Post.brF (by simp only [Bool.or_eq_true, Bool.and_eq_true, beq_iff_eq, bne_iff_ne, decide_eq_true_eq, ne_eq, Bool.not_eq_true', beq_eq_false_iff_ne, bne_eq_false_iff_eq, decide_eq_false_iff_not, Decidable.not_not, Bool.or_eq_false_iff, Bool.and_eq_false_iff, Bool.not_eq_false']; omega) ?_)
          exact ptab (k + 1) rfl (by omega) (Post.pure (set e))
        · rw [if_neg (fun h => by have := h.2.2; unfold Jn at this; omega)] at e
          refine Post.br (fun c1 => ?_) (fun c1 => ?_) <;> simp only [Bool.or_eq_true, Bool.and_eq_true, beq_iff_eq, bne_iff_ne, decide_eq_true_eq, ne_eq, Bool.not_eq_true', beq_eq_false_iff_ne, bne_eq_false_iff_eq, decide_eq_false_iff_not, Decidable.not_not, Bool.or_eq_false_iff, Bool.and_eq_false_iff, Bool.not_eq_false'] at c1
          · refine Post.br (fun c2 => ?_) (fun c2 => ?_) <;> simp only [Bool.or_eq_true, Bool.and_eq_true, beq_iff_eq, bne_iff_ne, decide_eq_true_eq, ne_eq, Bool.not_eq_true', beq_eq_false_iff_ne, bne_eq_false_iff_eq, decide_eq_false_iff_not, Decidable.not_not, Bool.or_eq_false_iff, Bool.and_eq_false_iff, Bool.not_eq_false'] at c2
            · (first | refine Post.brT (by simp only [Bool.or_eq_true, Bool.and_eq_true, beq_iff_eq, bne_iff_ne, decide_eq_true_eq, ne_eq, Bool.not_eq_true', beq_eq_false_iff_ne, bne_eq_false_iff_eq, decide_eq_false_iff_not, Decidable.not_not, Bool.or_eq_false_iff, Bool.and_eq_false_iff, Bool.not_eq_false']; omega) ?_ | refine Post.brF (by simp only [Bool.or_eq_true, Bool.and_eq_true, beq_iff_eq, bne_iff_ne, decide_eq_true_eq, ne_eq, Bool.not_eq_true', beq_eq_false_iff_ne, bne_eq_false_iff_eq, decide_eq_false_iff_not, Decidable.not_not, Bool.or_eq_false_iff, Bool.and_eq_false_iff, Bool.not_eq_false']; omega) ?_)
              refine ptab (k + 1) rfl (by omega) ?_
              rw [part_at]
              (first | refine Post.brT (by simp only [Bool.or_eq_true, Bool.and_eq_true, beq_iff_eq, bne_iff_ne, decide_eq_true_eq, ne_eq, Bool.not_eq_true', beq_eq_false_iff_ne, bne_eq_false_iff_eq, decide_eq_false_iff_not, Decidable.not_not, Bool.or_eq_false_iff, Bool.and_eq_false_iff, Bool.not_eq_false']; omega) ?_ | refine Post.brF (by simp only [Bool.or_eq_true, Bool.and_eq_true, beq_iff_eq, bne_iff_ne, decide_eq_true_eq, ne_eq, Bool.not_eq_true', beq_eq_false_iff_ne, bne_eq_false_iff_eq, decide_eq_false_iff_not, Decidable.not_not, Bool.or_eq_false_iff, Bool.and_eq_false_iff, Bool.not_eq_false']; omega) ?_)
              exact Post.pure (keep e)
            · refine ptab (k + 1) rfl (by omega) ?_
              rw [part_at]
              (first | refine Post.brT (by simp only [Bool.or_eq_true, Bool.and_eq_true, beq_iff_eq, bne_iff_ne, decide_eq_true_eq, ne_eq, Bool.not_eq_true', beq_eq_false_iff_ne, bne_eq_false_iff_eq, decide_eq_false_iff_not, Decidable.not_not, Bool.or_eq_false_iff, Bool.and_eq_false_iff, Bool.not_eq_false']; omega) ?_ | refine Post.brF (by simp only [Bool.or_eq_true, Bool.and_eq_true, beq_iff_eq, bne_iff_ne, decide_eq_true_eq, ne_eq, Bool.not_eq_true', beq_eq_false_iff_ne, bne_eq_false_iff_eq, decide_eq_false_iff_not, Decidable.not_not, Bool.or_eq_false_iff, Bool.and_eq_false_iff, Bool.not_eq_false']; omega) ?_)
              exact Post.pure (keep e)
          · refine ptab (k + 1) rfl (by omega) ?_
            rw [part_at]
            refine Post.br (fun c2 => ?_) (fun c2 => ?_) <;> simp only [Bool.or_eq_true, Bool.and_eq_true, beq_iff_eq, bne_iff_ne, decide_eq_true_eq, ne_eq, Bool.not_eq_true', beq_eq_false_iff_ne, bne_eq_false_iff_eq, decide_eq_false_iff_not, Decidable.not_not, Bool.or_eq_false_iff, Bool.and_eq_false_iff, Bool.not_eq_false'] at c2
            · refine Post.br (fun c3 => ?_) (fun c3 => ?_) <;> simp only [Bool.or_eq_true, Bool.and_eq_true, beq_iff_eq, bne_iff_ne, decide_eq_true_eq, ne_eq, Bool.not_eq_true', beq_eq_false_iff_ne, bne_eq_false_iff_eq, decide_eq_false_iff_not, Decidable.not_not, Bool.or_eq_false_iff, Bool.and_eq_false_iff, Bool.not_eq_false'] at c3
              · (first | refine Post.brT (by simp only [Bool.or_eq_true, Bool.and_eq_true, beq_iff_eq, bne_iff_ne, decide_eq_true_eq, ne_eq, Bool.not_eq_true', beq_eq_false_iff_ne, bne_eq_false_iff_eq, decide_eq_false_iff_not, Decidable.not_not, Bool.or_eq_false_iff, Bool.and_eq_false_iff, Bool.not_eq_false']; omega) ?_ | refine Post.brF (by simp only [Bool.or_eq_true, Bool.and_eq_true, beq_iff_eq, bne_iff_ne, decide_eq_true_eq, ne_eq, Bool.not_eq_true', beq_eq_false_iff_ne, bne_eq_false_iff_eq, decide_eq_false_iff_not, Decidable.not_not, Bool.or_eq_false_iff, Bool.and_eq_false_iff, Bool.not_eq_false']; omega) ?_)
                (first | refine Post.brT (by simp only [Bool.or_eq_true, Bool.and_eq_true, beq_iff_eq, bne_iff_ne, decide_eq_true_eq, ne_eq, Bool.not_eq_true', beq_eq_false_iff_ne, bne_eq_false_iff_eq, decide_eq_false_iff_not, Decidable.not_not, Bool.or_eq_false_iff, Bool.and_eq_false_iff, Bool.not_eq_false']; omega) ?_ | refine Post.brF (by simp only [Bool.or_eq_true, Bool.and_eq_true, beq_iff_eq, bne_iff_ne, decide_eq_true_eq, ne_eq, Bool.not_eq_true', beq_eq_false_iff_ne, bne_eq_false_iff_eq, decide_eq_false_iff_not, Decidable.not_not, Bool.or_eq_false_iff, Bool.and_eq_false_iff, Bool.not_eq_false']; omega) ?_)
                exact Post.pure (keep e)
              · refine Post.br (fun c4 => ?_) (fun c4 => ?_) <;> simp only [Bool.or_eq_true, Bool.and_eq_true, beq_iff_eq, bne_iff_ne, decide_eq_true_eq, ne_eq, Bool.not_eq_true', beq_eq_false_iff_ne, bne_eq_false_iff_eq, decide_eq_false_iff_not, Decidable.not_not, Bool.or_eq_false_iff, Bool.and_eq_false_iff, Bool.not_eq_false'] at c4
                · (first | refine Post.brT (by simp only [Bool.or_eq_true, Bool.and_eq_true, beq_iff_eq, bne_iff_ne, decide_eq_true_eq, ne_eq, Bool.not_eq_true', beq_eq_false_iff_ne, bne_eq_false_iff_eq, decide_eq_false_iff_not, Decidable.not_not, Bool.or_eq_false_iff, Bool.and_eq_false_iff, Bool.not_eq_false']; omega) ?_ | refine Post.brF (by simp only [Bool.or_eq_true, Bool.and_eq_true, beq_iff_eq, bne_iff_ne, decide_eq_true_eq, ne_eq, Bool.not_eq_true', beq_eq_false_iff_ne, bne_eq_false_iff_eq, decide_eq_false_iff_not, Decidable.not_not, Bool.or_eq_false_iff, Bool.and_eq_false_iff, Bool.not_eq_false']; omega) ?_)
                  exact Post.pure (keep e)
                · exact Post.pure (keep e)
            · exact Post.pure (keep e)
  · dsimp only
    unfold ref14_rule4_L3
    rw [tab_len]
    (first | refine Post.brT (by simp only [Bool.or_eq_true, Bool.and_eq_true, beq_iff_eq, bne_iff_ne, decide_eq_true_eq, ne_eq, Bool.not_eq_true', beq_eq_false_iff_ne, bne_eq_false_iff_eq, decide_eq_false_iff_not, Decidable.not_not, Bool.or_eq_false_iff, Bool.and_eq_false_iff, Bool.not_eq_false']; omega) ?_ | refine Post.brF (by simp only [Bool.or_eq_true, Bool.and_eq_true, beq_iff_eq, bne_iff_ne, decide_eq_true_eq, ne_eq, Bool.not_eq_true', beq_eq_false_iff_ne, bne_eq_false_iff_eq, decide_eq_false_iff_not, Decidable.not_not, Bool.or_eq_false_iff, Bool.and_eq_false_iff, Bool.not_eq_false']; omega) ?_)
    refine Post.pure ?_
    rw [show tab n (part (m4 n g) g (n - 1 + 1)) = tab n (m4 n g) from tab_congr fun i hi => if_pos (by omega)]

end Go.Proofs.Ytgpmfpigldkgfaa
