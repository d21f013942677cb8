/-
  The laws of weak classes return true: the rules of terminators, leftovers and latin numbers; all rules together.
-/
import Derived.Test.YtgpmfpigldkgfaaLawWeak
namespace Go.Proofs.Ytgpmfpigldkgfaa
set_option linter.all false

/-! ### rule 5: terminators -/
def l5 (sos : Int) (g : Nat → Int) : Nat → Int
  | 0 => sos
  | i + 1 => if g i = 5 then l5 sos g i else g i
theorem l5_succ (sos : Int) (g : Nat → Int) (k : Nat) : l5 sos g (k + 1) = if g k = 5 then l5 sos g k else g k := rfl
def nx5 (g : Nat → Int) : Nat → Nat → Int
  | 0, _ => -1
  | d + 1, i => if g i = 5 then nx5 g d (i + 1) else g i
def r5 (n : Nat) (g : Nat → Int) (i : Nat) : Int := nx5 g (n - i) i
theorem r5_eq (n : Nat) (g : Nat → Int) (i : Nat) : r5 n g i = if i < n then (if g i = 5 then r5 n g (i + 1) else g i) else -1 := by
  unfold r5
  by_cases h : i < n
  · rw [if_pos h, show n - i = (n - (i + 1)) + 1 by omega]; rfl
  · rw [if_neg h, show n - i = 0 by omega]; rfl
def m5 (n : Nat) (sos : Int) (g : Nat → Int) (k : Nat) : Int := if g k = 5 ∧ (l5 sos g k = 3 ∨ r5 n g k = 3) then 3 else g k
theorem l5_run {sos : Int} {g : Nat → Int} {a : Nat} : ∀ d : Nat, (∀ i, a ≤ i → i < a + d → g i = 5) → l5 sos g (a + d) = l5 sos g a
  | 0, _ => rfl
  | d + 1, h => by
    rw [show a + (d + 1) = (a + d) + 1 by omega, l5_succ, if_pos (h (a + d) (by omega) (by omega))]
    exact l5_run d fun i h1 h2 => h i h1 (by omega)
theorem r5_run {n : Nat} {g : Nat → Int} {b : Nat} (hb : b ≤ n) : ∀ (d a : Nat), a + d = b → (∀ i, a ≤ i → i < b → g i = 5) → r5 n g a = r5 n g b
  | 0, a, e, _ => by rw [show a = b by omega]
  | d + 1, a, e, h => by
    rw [r5_eq, if_pos (by omega), if_pos (h a (by omega) (by omega))]
    exact r5_run hb d (a + 1) (by omega) fun i h1 h2 => h i (by omega) h2

theorem tL4 (xs : Nat → Int) (n : Nat) (hn : n ≤ 4194304) (b f : Int) (a : Nat) (ha : a ≤ n) : ∃ t : Nat, a ≤ t ∧ t ≤ n ∧ (∀ i, a ≤ i → i < t → xs i = 5) ∧ (t = n ∨ xs t ≠ 5) ∧
    loopW (fun s : List Int × Int × Int × Int => (weak_terminators_L4 s.1 s.2.1 s.2.2.1 s.2.2.2).run) (tab n xs, b, f, (a : Int)) = some (tab n xs, b, f, (t : Int)) := by
  refine Exists.elim (loop_ex (L := fun s : List Int × Int × Int × Int => weak_terminators_L4 s.1 s.2.1 s.2.2.1 s.2.2.2) (fun s => ∃ t : Nat, s = (tab n xs, b, f, (t : Int)) ∧ a ≤ t ∧ t ≤ n ∧ ∀ i, a ≤ i → i < t → xs i = 5) (fun s => n - s.2.2.2.toNat)
    (R := fun r => ∃ t : Nat, r = (tab n xs, b, f, (t : Int)) ∧ a ≤ t ∧ t ≤ n ∧ (∀ i, a ≤ i → i < t → xs i = 5) ∧ (t = n ∨ xs t ≠ 5)) (s0 := (tab n xs, b, f, (a : Int))) (fun s hs => ?_) ⟨a, rfl, by omega, ha, fun i h1 h2 => by omega⟩) (fun r hr => ?_)
  · obtain ⟨t, rfl, h1, h2, h3⟩ := hs
    dsimp only
    unfold weak_terminators_L4
    rw [tab_len]
    by_cases h : t < n
    · (first | refine Post.brT (by simp only [Bool.or_eq_true, Bool.and_eq_true, beq_iff_eq, bne_iff_ne, decide_eq_true_eq, ne_eq, Bool.not_eq_true', beq_eq_false_iff_ne, bne_eq_false_iff_eq, decide_eq_false_iff_not, Decidable.not_not, Bool.or_eq_false_iff, Bool.and_eq_false_iff, Bool.not_eq_false']; omega) ?_ | refine Post.brF (by simp only [Bool.or_eq_true, Bool.and_eq_true, beq_iff_eq, bne_iff_ne, decide_eq_true_eq, ne_eq, Bool.not_eq_true', beq_eq_false_iff_ne, bne_eq_false_iff_eq, decide_eq_false_iff_not, Decidable.not_not, Bool.or_eq_false_iff, Bool.and_eq_false_iff, Bool.not_eq_false']; omega) ?_)
      (first | refine ptab _ rfl (by omega) ?_ | refine Post.bnd (idx_set_at (by omega) (by simp only [List.length_set, tab_len]; omega)) ?_)
      (first | refine ptab _ rfl (by omega) ?_ | refine Post.bnd (idx_set_at (by omega) (by simp only [List.length_set, tab_len]; omega)) ?_)
      by_cases h5 : xs t = 5
      · (first | refine Post.brT (by simp only [Bool.or_eq_true, Bool.and_eq_true, beq_iff_eq, bne_iff_ne, decide_eq_true_eq, ne_eq, Bool.not_eq_true', beq_eq_false_iff_ne, bne_eq_false_iff_eq, decide_eq_false_iff_not, Decidable.not_not, Bool.or_eq_false_iff, Bool.and_eq_false_iff, Bool.not_eq_false']; omega) ?_ | refine Post.brF (by simp only [Bool.or_eq_true, Bool.and_eq_true, beq_iff_eq, bne_iff_ne, decide_eq_true_eq, ne_eq, Bool.not_eq_true', beq_eq_false_iff_ne, bne_eq_false_iff_eq, decide_eq_false_iff_not, Decidable.not_not, Bool.or_eq_false_iff, Bool.and_eq_false_iff, Bool.not_eq_false']; omega) ?_)
        refine Post.pure ⟨⟨t + 1, by rw [wrap_succ (by omega)], by omega, by omega, fun i k1 k2 => ?_⟩, ?_⟩
        · by_cases e : i = t
          · rw [e]; exact h5
          · exact h3 i k1 (by omega)
        · dsimp only
          rw [wrap_succ (by omega), toNat_nat, toNat_nat]
          omega
      · (first | refine Post.brT (by simp only [Bool.or_eq_true, Bool.and_eq_true, beq_iff_eq, bne_iff_ne, decide_eq_true_eq, ne_eq, Bool.not_eq_true', beq_eq_false_iff_ne, bne_eq_false_iff_eq, decide_eq_false_iff_not, Decidable.not_not, Bool.or_eq_false_iff, Bool.and_eq_false_iff, Bool.not_eq_false']; omega) ?_ | refine Post.brF (by simp only [Bool.or_eq_true, Bool.and_eq_true, beq_iff_eq, bne_iff_ne, decide_eq_true_eq, ne_eq, Bool.not_eq_true', beq_eq_false_iff_ne, bne_eq_false_iff_eq, decide_eq_false_iff_not, Decidable.not_not, Bool.or_eq_false_iff, Bool.and_eq_false_iff, Bool.not_eq_false']; omega) ?_)
        exact Post.pure ⟨t, rfl, h1, h2, h3, .inr h5⟩
    · (first | refine Post.brT (by simp only [Bool.or_eq_true, Bool.and_eq_true, beq_iff_eq, bne_iff_ne, decide_eq_true_eq, ne_eq, Bool.not_eq_true', beq_eq_false_iff_ne, bne_eq_false_iff_eq, decide_eq_false_iff_not, Decidable.not_not, Bool.or_eq_false_iff, Bool.and_eq_false_iff, Bool.not_eq_false']; omega) ?_ | refine Post.brF (by simp only [Bool.or_eq_true, Bool.and_eq_true, beq_iff_eq, bne_iff_ne, decide_eq_true_eq, ne_eq, Bool.not_eq_true', beq_eq_false_iff_ne, bne_eq_false_iff_eq, decide_eq_false_iff_not, Decidable.not_not, Bool.or_eq_false_iff, Bool.and_eq_false_iff, Bool.not_eq_false']; omega) ?_)
      exact Post.pure ⟨t, rfl, h1, h2, h3, .inl (by omega)⟩
  · obtain ⟨h1, t, rfl, k⟩ := hr
    exact ⟨t, k.1, k.2.1, k.2.2.1, k.2.2.2, h1⟩

theorem tL8 (n : Nat) (sos : Int) (g : Nat → Int) (hn : n ≤ 4194304) (b : Int) (a t : Nat) (ha : a ≤ t) (ht : t ≤ n) (hm : ∀ i, a ≤ i → i < t → m5 n sos g i = 3) :
    loopW (fun s : List Int × Int × Int × Int => (weak_terminators_L8 s.1 s.2.1 s.2.2.1 s.2.2.2).run) (tab n (part (m5 n sos g) g a), b, (t : Int), (a : Int)) = some (tab n (part (m5 n sos g) g t), b, (t : Int)) := by
  refine count (L := fun s : List Int × Int × Int × Int => weak_terminators_L8 s.1 s.2.1 s.2.2.1 s.2.2.2) (t - a) (fun k => (tab n (part (m5 n sos g) g (a + k)), b, (t : Int), ((a + k : Nat) : Int))) rfl (fun k hk => ?_) ?_
  · dsimp only
    unfold weak_terminators_L8
    (first | refine Post.brT (by simp only [Bool.or_eq_true, Bool.and_eq_true, beq_iff_eq, bne_iff_ne, decide_eq_true_eq, ne_eq, Bool.not_eq_true', beq_eq_false_iff_ne, bne_eq_false_iff_eq, decide_eq_false_iff_not, Decidable.not_not, Bool.or_eq_false_iff, Bool.and_eq_false_iff, Bool.not_eq_false']; omega) ?_ | refine Post.brF (by simp only [Bool.or_eq_true, Bool.and_eq_true, beq_iff_eq, bne_iff_ne, decide_eq_true_eq, ne_eq, Bool.not_eq_true', beq_eq_false_iff_ne, bne_eq_false_iff_eq, decide_eq_false_iff_not, Decidable.not_not, Bool.or_eq_false_iff, Bool.and_eq_false_iff, Bool.not_eq_false']; omega) ?_)
    refine ptab (a + k) rfl (by omega) (ptab (a + k) rfl (by omega) (Post.pure ?_))
    rw [toNat_nat, wrap_succ (by omega), part_set n (hm (a + k) (by omega) (by omega))]; rfl
  · dsimp only
    unfold weak_terminators_L8
    (first | refine Post.brT (by simp only [Bool.or_eq_true, Bool.and_eq_true, beq_iff_eq, bne_iff_ne, decide_eq_true_eq, ne_eq, Bool.not_eq_true', beq_eq_false_iff_ne, bne_eq_false_iff_eq, decide_eq_false_iff_not, Decidable.not_not, Bool.or_eq_false_iff, Bool.and_eq_false_iff, Bool.not_eq_false']; omega) ?_ | refine Post.brF (by simp only [Bool.or_eq_true, Bool.and_eq_true, beq_iff_eq, bne_iff_ne, decide_eq_true_eq, ne_eq, Bool.not_eq_true', beq_eq_false_iff_ne, bne_eq_false_iff_eq, decide_eq_false_iff_not, Decidable.not_not, Bool.or_eq_false_iff, Bool.and_eq_false_iff, Bool.not_eq_false']; omega) ?_)
    rw [show a + (t - a) = t by omega]
    exact Post.pure rfl

theorem part_keeps (n : Nat) {m g : Nat → Int} {a : Nat} : ∀ {d : Nat}, (∀ i, a ≤ i → i < a + d → m i = g i) → tab n (part m g a) = tab n (part m g (a + d))
  | 0, _ => rfl
  | d + 1, h => by
    rw [part_keeps (d := d) n fun i h1 h2 => h i h1 (by omega), show a + (d + 1) = (a + d) + 1 by omega]
    exact part_keep n (h (a + d) (by omega) (by omega))

theorem terminators_F (sos : Int) (g : Nat → Int) (n : Nat) (hn : n ≤ 4194304) : weak_terminators_F (tab n g) sos = some (tab n (m5 n sos g), ()) := by
  unfold weak_terminators_F weak_terminators_T
  refine Post.run (Post.call (R := fun r => r = tab n (m5 n sos g)) (loop_ex (L := fun s : List Int × Int × Int => weak_terminators_L2 s.1 s.2.1 s.2.2) (fun s => ∃ (k : Nat) (b : Int), s = (tab n (part (m5 n sos g) g k), b, (k : Int)) ∧ k ≤ n + 1 ∧ (k ≤ n → b = l5 sos g k)) (fun s => n + 1 - s.2.2.toNat) (fun s hs => ?_) ⟨0, sos, rfl, by omega, fun _ => rfl⟩) (fun r hr => by rw [hr]; exact Post.pure rfl))
  obtain ⟨k, b, rfl, hk, hb⟩ := hs
  dsimp only
  unfold weak_terminators_L2
  rw [tab_len]
  by_cases h : k < n
  · (first | refine Post.brT (by simp only [Bool.or_eq_true, Bool.and_eq_true, beq_iff_eq, bne_iff_ne, decide_eq_true_eq, ne_eq, Bool.not_eq_true', beq_eq_false_iff_ne, bne_eq_false_iff_eq, decide_eq_false_iff_not, Decidable.not_not, Bool.or_eq_false_iff, Bool.and_eq_false_iff, Bool.not_eq_false']; omega) ?_ | refine Post.brF (by simp only [Bool.or_eq_true, Bool.and_eq_true, beq_iff_eq, bne_iff_ne, decide_eq_true_eq, ne_eq, Bool.not_eq_true', beq_eq_false_iff_ne, bne_eq_false_iff_eq, decide_eq_false_iff_not, Decidable.not_not, Bool.or_eq_false_iff, Bool.and_eq_false_iff, Bool.not_eq_false']; omega) ?_)
    have hb := hb (by omega)
    obtain ⟨t, t1, t2, t3, t4, t5⟩ := tL4 (part (m5 n sos g) g k) n hn b (k : Int) k (by omega)
    refine Post.bnd t5 ?_
    dsimp only
    have g5 : ∀ i, k ≤ i → i < t → g i = 5 := fun i h1 h2 => by have := t3 i h1 h2; rwa [part_ge _ _ h1] at this
    have gt : t = n ∨ g t ≠ 5 := by rwa [part_ge _ _ t1] at t4
    have el : ∀ i, k ≤ i → i ≤ t → l5 sos g i = b := fun i h1 h2 => by
      have := l5_run (sos := sos) (g := g) (a := k) (i - k) (fun j k1 k2 => g5 j k1 (by omega))
      rw [show k + (i - k) = i by omega] at this
      rw [this, hb]
    have er : ∀ i, k ≤ i → i ≤ t → r5 n g i = if t < n then g t else -1 := fun i h1 h2 => by
      rw [r5_run t2 (t - i) i (by omega) (fun j k1 k2 => g5 j (by omega) k2), r5_eq]
      by_cases ht : t < n
      · rw [if_pos ht, if_pos ht, if_neg (by omega)]
      · rw [if_neg ht, if_neg ht]
    -- what stands there behind the run
    have fin : ∀ row : List Int, row = tab n (part (m5 n sos g) g t) → Post (Tr.br (decide ((t : Int) < (row.length : Int))) (.bnd (idx row (t : Int)) fun _ => .bnd (idx row (t : Int)) fun x => .pure (.next (row, x, IntKind.i64.wrap ((t : Int) + 1)))) (.pure (.next (row, b, IntKind.i64.wrap ((t : Int) + 1)))))
        (fun l : Lap (List Int × Int × Int) (List Int) => match l with
          | .next s' => (∃ (k : Nat) (b : Int), s' = (tab n (part (m5 n sos g) g k), b, (k : Int)) ∧ k ≤ n + 1 ∧ (k ≤ n → b = l5 sos g k)) ∧ n + 1 - s'.2.2.toNat < n + 1 - k
          | .done r => r = tab n (m5 n sos g)) := by
      rintro row rfl
      rw [tab_len, wrap_succ (by omega)]
      by_cases ht : t < n
      · (first | refine Post.brT (by simp only [Bool.or_eq_true, Bool.and_eq_true, beq_iff_eq, bne_iff_ne, decide_eq_true_eq, ne_eq, Bool.not_eq_true', beq_eq_false_iff_ne, bne_eq_false_iff_eq, decide_eq_false_iff_not, Decidable.not_not, Bool.or_eq_false_iff, Bool.and_eq_false_iff, Bool.not_eq_false']; omega) ?_ | refine Post.brF (by simp only [Bool.or_eq_true, Bool.and_eq_true, beq_iff_eq, bne_iff_ne, decide_eq_true_eq, ne_eq, Bool.not_eq_true', beq_eq_false_iff_ne, bne_eq_false_iff_eq, decide_eq_false_iff_not, Decidable.not_not, Bool.or_eq_false_iff, Bool.and_eq_false_iff, Bool.not_eq_false']; omega) ?_)
        (first | refine ptab _ rfl (by omega) ?_ | refine Post.bnd (idx_set_at (by omega) (by simp only [List.length_set, tab_len]; omega)) ?_)
        (first | refine ptab _ rfl (by omega) ?_ | refine Post.bnd (idx_set_at (by omega) (by simp only [List.length_set, tab_len]; omega)) ?_)
        rw [part_at]
        have e : m5 n sos g t = g t := if_neg (by omega)
        refine Post.pure ⟨⟨t + 1, g t, by rw [part_keep n e], by omega, fun _ => ?_⟩, ?_⟩
        · rw [l5_succ, if_neg (by omega)]
        · dsimp only; rw [toNat_nat]; omega
      · (first | refine Post.brT (by simp only [Bool.or_eq_true, Bool.and_eq_true, beq_iff_eq, bne_iff_ne, decide_eq_true_eq, ne_eq, Bool.not_eq_true', beq_eq_false_iff_ne, bne_eq_false_iff_eq, decide_eq_false_iff_not, Decidable.not_not, Bool.or_eq_false_iff, Bool.and_eq_false_iff, Bool.not_eq_false']; omega) ?_ | refine Post.brF (by simp only [Bool.or_eq_true, Bool.and_eq_true, beq_iff_eq, bne_iff_ne, decide_eq_true_eq, ne_eq, Bool.not_eq_true', beq_eq_false_iff_ne, bne_eq_false_iff_eq, decide_eq_false_iff_not, Decidable.not_not, Bool.or_eq_false_iff, Bool.and_eq_false_iff, Bool.not_eq_false']; omega) ?_)
        refine Post.pure ⟨⟨t + 1, b, ?_, by omega, fun h => by omega⟩, ?_⟩
        · rw [show tab n (part (m5 n sos g) g (t + 1)) = tab n (part (m5 n sos g) g t) from tab_congr fun i hi => by rw [part_lt _ _ (by omega), part_lt _ _ (by omega)]]
        · dsimp only; rw [toNat_nat]; omega
    have loop : (b = 3 ∨ (t < n ∧ g t = 3)) → loopW (fun s : List Int × Int × Int × Int => (weak_terminators_L8 s.1 s.2.1 s.2.2.1 s.2.2.2).run) (tab n (part (m5 n sos g) g k), b, (t : Int), (k : Int)) = some (tab n (part (m5 n sos g) g t), b, (t : Int)) := by
      intro hc
      refine tL8 n sos g hn b k t t1 t2 fun i h1 h2 => ?_
      refine if_pos ⟨g5 i h1 h2, ?_⟩
      rw [el i h1 (by omega), er i h1 (by omega)]
      rcases hc with hc | ⟨c1, c2⟩
      · exact .inl hc
      · rw [if_pos c1]; exact .inr c2
    have keep : ¬ (b = 3 ∨ (t < n ∧ g t = 3)) → tab n (part (m5 n sos g) g k) = tab n (part (m5 n sos g) g t) := by
      intro hc
      have := part_keeps n (m := m5 n sos g) (g := g) (a := k) (d := t - k) (fun i h1 h2 => by
        refine if_neg fun hh => hc ?_
        rw [el i h1 (by omega), er i h1 (by omega)] at hh
        rcases hh.2 with h2 | h2
        · exact .inl h2
        · by_cases ht : t < n
          · rw [if_pos ht] at h2; exact .inr ⟨ht, h2⟩
          · rw [if_neg ht] at h2; omega)
      rwa [show k + (t - k) = t by omega] at this
    by_cases h3 : b = 3
    · (first | refine Post.brT (by simp only [Bool.or_eq_true, Bool.and_eq_true, beq_iff_eq, bne_iff_ne, decide_eq_true_eq, ne_eq, Bool.not_eq_true', beq_eq_false_iff_ne, bne_eq_false_iff_eq, decide_eq_false_iff_not, Decidable.not_not, Bool.or_eq_false_iff, Bool.and_eq_false_iff, Bool.not_eq_false']; omega) ?_ | refine Post.brF (by simp only [Bool.or_eq_true, Bool.and_eq_true, beq_iff_eq, bne_iff_ne, decide_eq_true_eq, ne_eq, Bool.not_eq_true', beq_eq_false_iff_ne, bne_eq_false_iff_eq, decide_eq_false_iff_not, Decidable.not_not, Bool.or_eq_false_iff, Bool.and_eq_false_iff, Bool.not_eq_false']; omega) ?_)
      refine Post.bnd (loop (.inl h3)) ?_
      exact (fin _ rfl).mono fun l hl => by cases l <;> exact hl
    · (first | refine Post.brT (by simp only [Bool.or_eq_true, Bool.and_eq_true, beq_iff_eq, bne_iff_ne, decide_eq_true_eq, ne_eq, Bool.not_eq_true', beq_eq_false_iff_ne, bne_eq_false_iff_eq, decide_eq_false_iff_not, Decidable.not_not, Bool.or_eq_false_iff, Bool.and_eq_false_iff, Bool.not_eq_false']; omega) ?_ | refine Post.brF (by simp only [Bool.or_eq_true, Bool.and_eq_true, beq_iff_eq, bne_iff_ne, decide_eq_true_eq, ne_eq, Bool.not_eq_true', beq_eq_false_iff_ne, bne_eq_false_iff_eq, decide_eq_false_iff_not, Decidable.not_not, Bool.or_eq_false_iff, Bool.and_eq_false_iff, Bool.not_eq_false']; omega) ?_)
      rw [tab_len]
      by_cases ht : t < n
      · (first | refine Post.brT (by simp only [Bool.or_eq_true, Bool.and_eq_true, beq_iff_eq, bne_iff_ne, decide_eq_true_eq, ne_eq, Bool.not_eq_true', beq_eq_false_iff_ne, bne_eq_false_iff_eq, decide_eq_false_iff_not, Decidable.not_not, Bool.or_eq_false_iff, Bool.and_eq_false_iff, Bool.not_eq_false']; omega) ?_ | refine Post.brF (by simp only [Bool.or_eq_true, Bool.and_eq_true, beq_iff_eq, bne_iff_ne, decide_eq_true_eq, ne_eq, Bool.not_eq_true', beq_eq_false_iff_ne, bne_eq_false_iff_eq, decide_eq_false_iff_not, Decidable.not_not, Bool.or_eq_false_iff, Bool.and_eq_false_iff, Bool.not_eq_false']; omega) ?_)
        refine ptab t rfl ht (ptab t rfl ht ?_)
        rw [part_ge _ _ t1]
        by_cases h4 : g t = 3
        · (first | refine Post.brT (by simp only [Bool.or_eq_true, Bool.and_eq_true, beq_iff_eq, bne_iff_ne, decide_eq_true_eq, ne_eq, Bool.not_eq_true', beq_eq_false_iff_ne, bne_eq_false_iff_eq, decide_eq_false_iff_not, Decidable.not_not, Bool.or_eq_false_iff, Bool.and_eq_false_iff, Bool.not_eq_false']; omega) ?_ | refine Post.brF (by simp only [Bool.or_eq_true, Bool.and_eq_true, beq_iff_eq, bne_iff_ne, decide_eq_true_eq, ne_eq, Bool.not_eq_true', beq_eq_false_iff_ne, bne_eq_false_iff_eq, decide_eq_false_iff_not, Decidable.not_not, Bool.or_eq_false_iff, Bool.and_eq_false_iff, Bool.not_eq_false']; omega) ?_)
          refine Post.bnd (loop (.inr ⟨ht, h4⟩)) ?_
          exact (fin _ rfl).mono fun l hl => by cases l <;> exact hl
        · (first | refine Post.brT (by simp only [Bool.or_eq_true, Bool.and_eq_true, beq_iff_eq, bne_iff_ne, decide_eq_true_eq, ne_eq, Bool.not_eq_true', beq_eq_false_iff_ne, bne_eq_false_iff_eq, decide_eq_false_iff_not, Decidable.not_not, Bool.or_eq_false_iff, Bool.and_eq_false_iff, Bool.not_eq_false']; omega) ?_ | refine Post.brF (by simp only [Bool.or_eq_true, Bool.and_eq_true, beq_iff_eq, bne_iff_ne, decide_eq_true_eq, ne_eq, Bool.not_eq_true', beq_eq_false_iff_ne, bne_eq_false_iff_eq, decide_eq_false_iff_not, Decidable.not_not, Bool.or_eq_false_iff, Bool.and_eq_false_iff, Bool.not_eq_false']; omega) ?_)
          rw [keep (by omega)]
          have := fin _ rfl
          rw [tab_len] at this
          exact this.mono fun l hl => by cases l <;> exact hl
      · refine Post.brF (decide_eq_false (by omega)) ?_
        rw [keep (by omega)]
        have := fin _ rfl
        rw [tab_len] at this
        exact this.mono fun l hl => by cases l <;> exact hl
  · (first | refine Post.brT (by simp only [Bool.or_eq_true, Bool.and_eq_true, beq_iff_eq, bne_iff_ne, decide_eq_true_eq, ne_eq, Bool.not_eq_true', beq_eq_false_iff_ne, bne_eq_false_iff_eq, decide_eq_false_iff_not, Decidable.not_not, Bool.or_eq_false_iff, Bool.and_eq_false_iff, Bool.not_eq_false']; omega) ?_ | refine Post.brF (by simp only [Bool.or_eq_true, Bool.and_eq_true, beq_iff_eq, bne_iff_ne, decide_eq_true_eq, ne_eq, Bool.not_eq_true', beq_eq_false_iff_ne, bne_eq_false_iff_eq, decide_eq_false_iff_not, Decidable.not_not, Bool.or_eq_false_iff, Bool.and_eq_false_iff, Bool.not_eq_false']; omega) ?_)
    exact Post.pure (tab_congr fun i hi => if_pos (by omega))

theorem rL7 (g : Nat → Int) (n : Nat) (hn : n ≤ 4194304) (sos : Int) (out : List Int) (q : Int) : ∀ k : Nat, k < n → ∃ i : Int, -1 ≤ i ∧ i ≤ k ∧ (i = -1 ∧ l5 sos g (k + 1) = sos ∨ ∃ j : Nat, i = j ∧ g j ≠ 5 ∧ l5 sos g (k + 1) = g j) ∧
    loopW (fun s : List Int × List Int × Int × Int => (ref14_rule5_L7 s.1 s.2.1 s.2.2.1 s.2.2.2).run) (tab n g, out, q, (k : Int)) = some (tab n g, out, q, i) := by
  intro k
  induction k with
  | zero =>
    intro hk
    by_cases h : g 0 = 5
    · refine ⟨-1, by omega, by omega, .inl ⟨rfl, by rw [l5_succ, if_pos h]; rfl⟩, loopW_next (s' := (tab n g, out, q, -1)) (Post.run ?_) (loopW_done (Post.run ?_))⟩
      · dsimp only
        unfold ref14_rule5_L7
        (first | refine Post.brT (by simp only [Bool.or_eq_true, Bool.and_eq_true, beq_iff_eq, bne_iff_ne, decide_eq_true_eq, ne_eq, Bool.not_eq_true', beq_eq_false_iff_ne, bne_eq_false_iff_eq, decide_eq_false_iff_not, Decidable.not_not, Bool.or_eq_false_iff, Bool.and_eq_false_iff, Bool.not_eq_false']; omega) ?_ | refine Post.brF (by simp only [Bool.or_eq_true, Bool.and_eq_true, beq_iff_eq, bne_iff_ne, decide_eq_true_eq, ne_eq, Bool.not_eq_true', beq_eq_false_iff_ne, bne_eq_false_iff_eq, decide_eq_false_iff_not, Decidable.not_not, Bool.or_eq_false_iff, Bool.and_eq_false_iff, Bool.not_eq_false']; omega) ?_)
        refine ptab 0 rfl hk ?_
        (first | refine Post.brT (by simp only [Bool.or_eq_true, Bool.and_eq_true, beq_iff_eq, bne_iff_ne, decide_eq_true_eq, ne_eq, Bool.not_eq_true', beq_eq_false_iff_ne, bne_eq_false_iff_eq, decide_eq_false_iff_not, Decidable.not_not, Bool.or_eq_false_iff, Bool.and_eq_false_iff, Bool.not_eq_false']; omega) ?_ | refine Post.brF (by simp only [Bool.or_eq_true, Bool.and_eq_true, beq_iff_eq, bne_iff_ne, decide_eq_true_eq, ne_eq, Bool.not_eq_true', beq_eq_false_iff_ne, bne_eq_false_iff_eq, decide_eq_false_iff_not, Decidable.not_not, Bool.or_eq_false_iff, Bool.and_eq_false_iff, Bool.not_eq_false']; omega) ?_)
        exact Post.pure rfl
      · dsimp only
        unfold ref14_rule5_L7
        (first | refine Post.brT (by simp only [Bool.or_eq_true, Bool.and_eq_true, beq_iff_eq, bne_iff_ne, decide_eq_true_eq, ne_eq, Bool.not_eq_true', beq_eq_false_iff_ne, bne_eq_false_iff_eq, decide_eq_false_iff_not, Decidable.not_not, Bool.or_eq_false_iff, Bool.and_eq_false_iff, Bool.not_eq_false']; omega) ?_ | refine Post.brF (by simp only [Bool.or_eq_true, Bool.and_eq_true, beq_iff_eq, bne_iff_ne, decide_eq_true_eq, ne_eq, Bool.not_eq_true', beq_eq_false_iff_ne, bne_eq_false_iff_eq, decide_eq_false_iff_not, Decidable.not_not, Bool.or_eq_false_iff, Bool.and_eq_false_iff, Bool.not_eq_false']; omega) ?_)
        exact Post.pure rfl
    · refine ⟨0, by omega, by omega, .inr ⟨0, rfl, h, by rw [l5_succ, if_neg h]⟩, loopW_done (Post.run ?_)⟩
      dsimp only
      unfold ref14_rule5_L7
      (first | refine Post.brT (by simp only [Bool.or_eq_true, Bool.and_eq_true, beq_iff_eq, bne_iff_ne, decide_eq_true_eq, ne_eq, Bool.not_eq_true', beq_eq_false_iff_ne, bne_eq_false_iff_eq, decide_eq_false_iff_not, Decidable.not_not, Bool.or_eq_false_iff, Bool.and_eq_false_iff, Bool.not_eq_false']; omega) ?_ | refine Post.brF (by simp only [Bool.or_eq_true, Bool.and_eq_true, beq_iff_eq, bne_iff_ne, decide_eq_true_eq, ne_eq, Bool.not_eq_true', beq_eq_false_iff_ne, bne_eq_false_iff_eq, decide_eq_false_iff_not, Decidable.not_not, Bool.or_eq_false_iff, Bool.and_eq_false_iff, Bool.not_eq_false']; omega) ?_)
      refine ptab 0 rfl hk ?_
      (first | refine Post.brT (by simp only [Bool.or_eq_true, Bool.and_eq_true, beq_iff_eq, bne_iff_ne, decide_eq_true_eq, ne_eq, Bool.not_eq_true', beq_eq_false_iff_ne, bne_eq_false_iff_eq, decide_eq_false_iff_not, Decidable.not_not, Bool.or_eq_false_iff, Bool.and_eq_false_iff, Bool.not_eq_false']; omega) ?_ | refine Post.brF (by simp only [Bool.or_eq_true, Bool.and_eq_true, beq_iff_eq, bne_iff_ne, decide_eq_true_eq, ne_eq, Bool.not_eq_true', beq_eq_false_iff_ne, bne_eq_false_iff_eq, decide_eq_false_iff_not, Decidable.not_not, Bool.or_eq_false_iff, Bool.and_eq_false_iff, Bool.not_eq_false']; omega) ?_)
      exact Post.pure rfl
  | succ k ih =>
    intro hk
    by_cases h : g (k + 1) = 5
    · obtain ⟨i, i1, i2, i3, i4⟩ := ih (by omega)
      refine ⟨i, i1, by omega, ?_, loopW_next (Post.run ?_) i4⟩
      · rw [l5_succ, if_pos h]; exact i3
      · dsimp only
        unfold ref14_rule5_L7
        (first | refine Post.brT (by simp only [Bool.or_eq_true, Bool.and_eq_true, beq_iff_eq, bne_iff_ne, decide_eq_true_eq, ne_eq, Bool.not_eq_true', beq_eq_false_iff_ne, bne_eq_false_iff_eq, decide_eq_false_iff_not, Decidable.not_not, Bool.or_eq_false_iff, Bool.and_eq_false_iff, Bool.not_eq_false']; omega) ?_ | refine Post.brF (by simp only [Bool.or_eq_true, Bool.and_eq_true, beq_iff_eq, bne_iff_ne, decide_eq_true_eq, ne_eq, Bool.not_eq_true', beq_eq_false_iff_ne, bne_eq_false_iff_eq, decide_eq_false_iff_not, Decidable.not_not, Bool.or_eq_false_iff, Bool.and_eq_false_iff, Bool.not_eq_false']; omega) ?_)
        refine ptab (k + 1) rfl hk ?_
        (first | refine Post.brT (by simp only [Bool.or_eq_true, Bool.and_eq_true, beq_iff_eq, bne_iff_ne, decide_eq_true_eq, ne_eq, Bool.not_eq_true', beq_eq_false_iff_ne, bne_eq_false_iff_eq, decide_eq_false_iff_not, Decidable.not_not, Bool.or_eq_false_iff, Bool.and_eq_false_iff, Bool.not_eq_false']; omega) ?_ | refine Post.brF (by simp only [Bool.or_eq_true, Bool.and_eq_true, beq_iff_eq, bne_iff_ne, decide_eq_true_eq, ne_eq, Bool.not_eq_true', beq_eq_false_iff_ne, bne_eq_false_iff_eq, decide_eq_false_iff_not, Decidable.not_not, Bool.or_eq_false_iff, Bool.and_eq_false_iff, Bool.not_eq_false']; omega) ?_)
        exact Post.pure (by rw [wrap64 (by omega) (by omega), show ((k + 1 : Nat) : Int) - 1 = (k : Int) by omega])
    · refine ⟨((k + 1 : Nat) : Int), by omega, by omega, .inr ⟨k + 1, rfl, h, by rw [l5_succ, if_neg h]⟩, loopW_done (Post.run ?_)⟩
      dsimp only
      unfold ref14_rule5_L7
      (first | refine Post.brT (by simp only [Bool.or_eq_true, Bool.and_eq_true, beq_iff_eq, bne_iff_ne, decide_eq_true_eq, ne_eq, Bool.not_eq_true', beq_eq_false_iff_ne, bne_eq_false_iff_eq, decide_eq_false_iff_not, Decidable.not_not, Bool.or_eq_false_iff, Bool.and_eq_false_iff, Bool.not_eq_false']; omega) ?_ | refine Post.brF (by simp only [Bool.or_eq_true, Bool.and_eq_true, beq_iff_eq, bne_iff_ne, decide_eq_true_eq, ne_eq, Bool.not_eq_true', beq_eq_false_iff_ne, bne_eq_false_iff_eq, decide_eq_false_iff_not, Decidable.not_not, Bool.or_eq_false_iff, Bool.and_eq_false_iff, Bool.not_eq_false']; omega) ?_)
      refine ptab (k + 1) rfl hk ?_
      (first | refine Post.brT (by simp only [Bool.or_eq_true, Bool.and_eq_true, beq_iff_eq, bne_iff_ne, decide_eq_true_eq, ne_eq, Bool.not_eq_true', beq_eq_false_iff_ne, bne_eq_false_iff_eq, decide_eq_false_iff_not, Decidable.not_not, Bool.or_eq_false_iff, Bool.and_eq_false_iff, Bool.not_eq_false']; omega) ?_ | refine Post.brF (by simp only [Bool.or_eq_true, Bool.and_eq_true, beq_iff_eq, bne_iff_ne, decide_eq_true_eq, ne_eq, Bool.not_eq_true', beq_eq_false_iff_ne, bne_eq_false_iff_eq, decide_eq_false_iff_not, Decidable.not_not, Bool.or_eq_false_iff, Bool.and_eq_false_iff, Bool.not_eq_false']; omega) ?_)
      exact Post.pure rfl

theorem rL10 (g : Nat → Int) (n : Nat) (hn : n ≤ 4194304) (out : List Int) (q i : Int) : ∀ (d k : Nat), k + d = n → ∃ j : Nat, k ≤ j ∧ j ≤ n ∧ r5 n g k = (if j < n then g j else -1) ∧ 
    loopW (fun s : List Int × List Int × Int × Int × Int => (ref14_rule5_L10 s.1 s.2.1 s.2.2.1 s.2.2.2.1 s.2.2.2.2).run) (tab n g, out, q, i, (k : Int)) = some (tab n g, out, q, i, (j : Int)) := by
  intro d
  induction d with
  | zero =>
    intro k hk
    refine ⟨k, by omega, by omega, by rw [r5_eq, if_neg (by omega), if_neg (by omega)], loopW_done (Post.run ?_)⟩
    dsimp only
    unfold ref14_rule5_L10
    rw [tab_len]
    (first | refine Post.brT (by simp only [Bool.or_eq_true, Bool.and_eq_true, beq_iff_eq, bne_iff_ne, decide_eq_true_eq, ne_eq, Bool.not_eq_true', beq_eq_false_iff_ne, bne_eq_false_iff_eq, decide_eq_false_iff_not, Decidable.not_not, Bool.or_eq_false_iff, Bool.and_eq_false_iff, Bool.not_eq_false']; omega) ?_ | refine Post.brF (by simp only [Bool.or_eq_true, Bool.and_eq_true, beq_iff_eq, bne_iff_ne, decide_eq_true_eq, ne_eq, Bool.not_eq_true', beq_eq_false_iff_ne, bne_eq_false_iff_eq, decide_eq_false_iff_not, Decidable.not_not, Bool.or_eq_false_iff, Bool.and_eq_false_iff, Bool.not_eq_false']; omega) ?_)
    exact Post.pure rfl
  | succ d ih =>
    intro k hk
    by_cases h : g k = 5
    · obtain ⟨j, j1, j2, j3, j4⟩ := ih (k + 1) (by omega)
      refine ⟨j, by omega, j2, by rw [r5_eq, if_pos (by omega), if_pos h]; exact j3, loopW_next (Post.run ?_) j4⟩
      dsimp only
      unfold ref14_rule5_L10
      rw [tab_len]
      (first | refine Post.brT (by simp only [Bool.or_eq_true, Bool.and_eq_true, beq_iff_eq, bne_iff_ne, decide_eq_true_eq, ne_eq, Bool.not_eq_true', beq_eq_false_iff_ne, bne_eq_false_iff_eq, decide_eq_false_iff_not, Decidable.not_not, Bool.or_eq_false_iff, Bool.and_eq_false_iff, Bool.not_eq_false']; omega) ?_ | refine Post.brF (by simp only [Bool.or_eq_true, Bool.and_eq_true, beq_iff_eq, bne_iff_ne, decide_eq_true_eq, ne_eq, Bool.not_eq_true', beq_eq_false_iff_ne, bne_eq_false_iff_eq, decide_eq_false_iff_not, Decidable.not_not, Bool.or_eq_false_iff, Bool.and_eq_false_iff, Bool.not_eq_false']; omega) ?_)
      refine ptab k rfl (by omega) ?_
      (first | refine Post.brT (by simp only [Bool.or_eq_true, Bool.and_eq_true, beq_iff_eq, bne_iff_ne, decide_eq_true_eq, ne_eq, Bool.not_eq_true', beq_eq_false_iff_ne, bne_eq_false_iff_eq, decide_eq_false_iff_not, Decidable.not_not, Bool.or_eq_false_iff, Bool.and_eq_false_iff, Bool.not_eq_false']; omega) ?_ | refine Post.brF (by simp only [Bool.or_eq_true, Bool.and_eq_true, beq_iff_eq, bne_iff_ne, decide_eq_true_eq, ne_eq, Bool.not_eq_true', beq_eq_false_iff_ne, bne_eq_false_iff_eq, decide_eq_false_iff_not, Decidable.not_not, Bool.or_eq_false_iff, Bool.and_eq_false_iff, Bool.not_eq_false']; omega) ?_)
      exact Post.pure (by rw [wrap_succ (by omega)])
    · refine ⟨k, by omega, by omega, by rw [r5_eq, if_pos (by omega), if_neg h, if_pos (by omega)], loopW_done (Post.run ?_)⟩
      dsimp only
      unfold ref14_rule5_L10
      rw [tab_len]
      (first | refine Post.brT (by simp only [Bool.or_eq_true, Bool.and_eq_true, beq_iff_eq, bne_iff_ne, decide_eq_true_eq, ne_eq, Bool.not_eq_true', beq_eq_false_iff_ne, bne_eq_false_iff_eq, decide_eq_false_iff_not, Decidable.not_not, Bool.or_eq_false_iff, Bool.and_eq_false_iff, Bool.not_eq_false']; omega) ?_ | refine Post.brF (by simp only [Bool.or_eq_true, Bool.and_eq_true, beq_iff_eq, bne_iff_ne, decide_eq_true_eq, ne_eq, Bool.not_eq_true', beq_eq_false_iff_ne, bne_eq_false_iff_eq, decide_eq_false_iff_not, Decidable.not_not, Bool.or_eq_false_iff, Bool.and_eq_false_iff, Bool.not_eq_false']; omega) ?_)
      refine ptab k rfl (by omega) ?_
      (first | refine Post.brT (by simp only [Bool.or_eq_true, Bool.and_eq_true, beq_iff_eq, bne_iff_ne, decide_eq_true_eq, ne_eq, Bool.not_eq_true', beq_eq_false_iff_ne, bne_eq_false_iff_eq, decide_eq_false_iff_not, Decidable.not_not, Bool.or_eq_false_iff, Bool.and_eq_false_iff, Bool.not_eq_false']; omega) ?_ | refine Post.brF (by simp only [Bool.or_eq_true, Bool.and_eq_true, beq_iff_eq, bne_iff_ne, decide_eq_true_eq, ne_eq, Bool.not_eq_true', beq_eq_false_iff_ne, bne_eq_false_iff_eq, decide_eq_false_iff_not, Decidable.not_not, Bool.or_eq_false_iff, Bool.and_eq_false_iff, Bool.not_eq_false']; omega) ?_)
      exact Post.pure rfl

theorem rule5_F (sos : Int) (hs : sos = 0 ∨ sos = 1) (g : Nat → Int) (n : Nat) (hn : n ≤ 4194304) : ref14_rule5_F (tab n g) = some (tab n (m5 n sos g)) := by
  unfold ref14_rule5_F ref14_rule5_T
  refine Post.run (Post.bnd (copied_F _ (by rw [tab_len]; exact hn)) (Post.bnd (count (L := fun s : List Int × List Int × Int => ref14_rule5_L3 s.1 s.2.1 s.2.2) n (fun k => (tab n g, tab n (part (m5 n sos g) g k), (k : Int))) (r := tab n (m5 n sos g)) rfl (fun k hk => ?_) ?_) (Post.pure rfl)))
  · dsimp only
    have e : m5 n sos g k = if g k = 5 ∧ (l5 sos g k = 3 ∨ r5 n g k = 3) then 3 else g k := rfl
    unfold ref14_rule5_L3
    rw [tab_len]
    (first | refine Post.brT (by simp only [Bool.or_eq_true, Bool.and_eq_true, beq_iff_eq, bne_iff_ne, decide_eq_true_eq, ne_eq, Bool.not_eq_true', beq_eq_false_iff_ne, bne_eq_false_iff_eq, decide_eq_false_iff_not, Decidable.not_not, Bool.or_eq_false_iff, Bool.and_eq_false_iff, Bool.not_eq_false']; omega) ?_ | refine Post.brF (by simp only [Bool.or_eq_true, Bool.and_eq_true, beq_iff_eq, bne_iff_ne, decide_eq_true_eq, ne_eq, Bool.not_eq_true', beq_eq_false_iff_ne, bne_eq_false_iff_eq, decide_eq_false_iff_not, Decidable.not_not, Bool.or_eq_false_iff, Bool.and_eq_false_iff, Bool.not_eq_false']; omega) ?_)
    (first | refine ptab _ rfl (by omega) ?_ | refine Post.bnd (idx_set_at (by omega) (by simp only [List.length_set, tab_len]; omega)) ?_)
    by_cases h : g k = 5
    · (first | refine Post.brT (by simp only [Bool.or_eq_true, Bool.and_eq_true, beq_iff_eq, bne_iff_ne, decide_eq_true_eq, ne_eq, Bool.not_eq_true', beq_eq_false_iff_ne, bne_eq_false_iff_eq, decide_eq_false_iff_not, Decidable.not_not, Bool.or_eq_false_iff, Bool.and_eq_false_iff, Bool.not_eq_false']; omega) ?_ | refine Post.brF (by simp only [Bool.or_eq_true, Bool.and_eq_true, beq_iff_eq, bne_iff_ne, decide_eq_true_eq, ne_eq, Bool.not_eq_true', beq_eq_false_iff_ne, bne_eq_false_iff_eq, decide_eq_false_iff_not, Decidable.not_not, Bool.or_eq_false_iff, Bool.and_eq_false_iff, Bool.not_eq_false']; omega) ?_)
      obtain ⟨i, i1, i2, i3, i4⟩ := rL7 g n hn sos (tab n (part (m5 n sos g) g k)) (k : Int) k hk
      obtain ⟨j, j1, j2, j3, j4⟩ := rL10 g n hn (tab n (part (m5 n sos g) g k)) (k : Int) i (n - k) k (by omega)
      rw [l5_succ, if_pos h] at i3
      refine Post.bnd i4 (Post.bnd j4 ?_)
      dsimp only
      rw [tab_len, wrap_succ (by omega), toNat_nat]
      have set : m5 n sos g k = 3 → Post (Tr.bnd (idx (tab n (part (m5 n sos g) g k)) (k : Int)) fun _ => .pure (.next (tab n g, (tab n (part (m5 n sos g) g k)).set k 3, ((k + 1 : Nat) : Int)))) (· = (Lap.next (tab n g, tab n (part (m5 n sos g) g (k + 1)), ((k + 1 : Nat) : Int)) : Lap (List Int × List Int × Int) (List Int))) := fun e => ptab k rfl hk (Post.pure (by rw [part_set n e]))
      have right : l5 sos g k ≠ 3 → Post (Tr.br (decide ((j : Int) < (n : Int))) (.bnd (idx (tab n g) (j : Int)) fun x => .br (x == 3) (.bnd (idx (tab n (part (m5 n sos g) g k)) (k : Int)) fun _ => .pure (.next (tab n g, (tab n (part (m5 n sos g) g k)).set k 3, ((k + 1 : Nat) : Int)))) (.pure (.next (tab n g, tab n (part (m5 n sos g) g k), ((k + 1 : Nat) : Int))))) (.pure (.next (tab n g, tab n (part (m5 n sos g) g k), ((k + 1 : Nat) : Int))))) (· = (Lap.next (tab n g, tab n (part (m5 n sos g) g (k + 1)), ((k + 1 : Nat) : Int)) : Lap (List Int × List Int × Int) (List Int))) := by
        intro hl
        by_cases hj : j < n
        · rw [if_pos hj] at j3
          (first | refine Post.brT (by simp only [Bool.or_eq_true, Bool.and_eq_true, beq_iff_eq, bne_iff_ne, decide_eq_true_eq, ne_eq, Bool.not_eq_true', beq_eq_false_iff_ne, bne_eq_false_iff_eq, decide_eq_false_iff_not, Decidable.not_not, Bool.or_eq_false_iff, Bool.and_eq_false_iff, Bool.not_eq_false']; omega) ?_ | refine Post.brF (by simp only [Bool.or_eq_true, Bool.and_eq_true, beq_iff_eq, bne_iff_ne, decide_eq_true_eq, ne_eq, Bool.not_eq_true', beq_eq_false_iff_ne, bne_eq_false_iff_eq, decide_eq_false_iff_not, Decidable.not_not, Bool.or_eq_false_iff, Bool.and_eq_false_iff, Bool.not_eq_false']; omega) ?_)
          (first | refine ptab _ rfl (by omega) ?_ | refine Post.bnd (idx_set_at (by omega) (by simp only [List.length_set, tab_len]; omega)) ?_)
          by_cases h3 : g j = 3
          · (first | refine Post.brT (by simp only [Bool.or_eq_true, Bool.and_eq_true, beq_iff_eq, bne_iff_ne, decide_eq_true_eq, ne_eq, Bool.not_eq_true', beq_eq_false_iff_ne, bne_eq_false_iff_eq, decide_eq_false_iff_not, Decidable.not_not, Bool.or_eq_false_iff, Bool.and_eq_false_iff, Bool.not_eq_false']; omega) ?_ | refine Post.brF (by simp only [Bool.or_eq_true, Bool.and_eq_true, beq_iff_eq, bne_iff_ne, decide_eq_true_eq, ne_eq, Bool.not_eq_true', beq_eq_false_iff_ne, bne_eq_false_iff_eq, decide_eq_false_iff_not, Decidable.not_not, Bool.or_eq_false_iff, Bool.and_eq_false_iff, Bool.not_eq_false']; omega) ?_)
            exact set (by rw [e, if_pos ⟨h, .inr (by omega)⟩])
          · (first | refine Post.brT (by simp only [Bool.or_eq_true, Bool.and_eq_true, beq_iff_eq, bne_iff_ne, decide_eq_true_eq, ne_eq, Bool.not_eq_true', beq_eq_false_iff_ne, bne_eq_false_iff_eq, decide_eq_false_iff_not, Decidable.not_not, Bool.or_eq_false_iff, Bool.and_eq_false_iff, Bool.not_eq_false']; omega) ?_ | refine Post.brF (by simp only [Bool.or_eq_true, Bool.and_eq_true, beq_iff_eq, bne_iff_ne, decide_eq_true_eq, ne_eq, Bool.not_eq_true', beq_eq_false_iff_ne, bne_eq_false_iff_eq, decide_eq_false_iff_not, Decidable.not_not, Bool.or_eq_false_iff, Bool.and_eq_false_iff, Bool.not_eq_false']; omega) ?_)
            exact Post.pure (by rw [← part_keep n (by rw [e, if_neg (by omega)])])
        · rw [if_neg hj] at j3
          (first | refine Post.brT (by simp only [Bool.or_eq_true, Bool.and_eq_true, beq_iff_eq, bne_iff_ne, decide_eq_true_eq, ne_eq, Bool.not_eq_true', beq_eq_false_iff_ne, bne_eq_false_iff_eq, decide_eq_false_iff_not, Decidable.not_not, Bool.or_eq_false_iff, Bool.and_eq_false_iff, Bool.not_eq_false']; omega) ?_ | refine Post.brF (by simp only [Bool.or_eq_true, Bool.and_eq_true, beq_iff_eq, bne_iff_ne, decide_eq_true_eq, ne_eq, Bool.not_eq_true', beq_eq_false_iff_ne, bne_eq_false_iff_eq, decide_eq_false_iff_not, Decidable.not_not, Bool.or_eq_false_iff, Bool.and_eq_false_iff, Bool.not_eq_false']; omega) ?_)
          exact Post.pure (by rw [← part_keep n (by rw [e, if_neg (by omega)])])
      rcases i3 with ⟨rfl, i5⟩ | ⟨q, rfl, i5, i6⟩
      · (first | refine Post.brT (by simp only [Bool.or_eq_true, Bool.and_eq_true, beq_iff_eq, bne_iff_ne, decide_eq_true_eq, ne_eq, Bool.not_eq_true', beq_eq_false_iff_ne, bne_eq_false_iff_eq, decide_eq_false_iff_not, Decidable.not_not, Bool.or_eq_false_iff, Bool.and_eq_false_iff, Bool.not_eq_false']; omega) ?_ | refine Post.brF (by simp only [Bool.or_eq_true, Bool.and_eq_true, beq_iff_eq, bne_iff_ne, decide_eq_true_eq, ne_eq, Bool.not_eq_true', beq_eq_false_iff_ne, bne_eq_false_iff_eq, decide_eq_false_iff_not, Decidable.not_not, Bool.or_eq_false_iff, Bool.and_eq_false_iff, Bool.not_eq_false']; omega) ?_)
        exact right (by omega)
      · (first | refine Post.brT (by simp only [Bool.or_eq_true, Bool.and_eq_true, beq_iff_eq, bne_iff_ne, decide_eq_true_eq, ne_eq, Bool.not_eq_true', beq_eq_false_iff_ne, bne_eq_false_iff_eq, decide_eq_false_iff_not, Decidable.not_not, Bool.or_eq_false_iff, Bool.and_eq_false_iff, Bool.not_eq_false']; omega) ?_ | refine Post.brF (by simp only [Bool.or_eq_true, Bool.and_eq_true, beq_iff_eq, bne_iff_ne, decide_eq_true_eq, ne_eq, Bool.not_eq_true', beq_eq_false_iff_ne, bne_eq_false_iff_eq, decide_eq_false_iff_not, Decidable.not_not, Bool.or_eq_false_iff, Bool.and_eq_false_iff, Bool.not_eq_false']; omega) ?_)
        (first | refine ptab _ rfl (by omega) ?_ | refine Post.bnd (idx_set_at (by omega) (by simp only [List.length_set, tab_len]; omega)) ?_)
        by_cases h3 : g q = 3
        · (first | refine Post.brT (by simp only [Bool.or_eq_true, Bool.and_eq_true, beq_iff_eq, bne_iff_ne, decide_eq_true_eq, ne_eq, Bool.not_eq_true', beq_eq_false_iff_ne, bne_eq_false_iff_eq, decide_eq_false_iff_not, Decidable.not_not, Bool.or_eq_false_iff, Bool.and_eq_false_iff, Bool.not_eq_false']; omega) ?_ | refine Post.brF (by simp only [Bool.or_eq_true, Bool.and_eq_true, beq_iff_eq, bne_iff_ne, decide_eq_true_eq, ne_eq, Bool.not_eq_true', beq_eq_false_iff_ne, bne_eq_false_iff_eq, decide_eq_false_iff_not, Decidable.not_not, Bool.or_eq_false_iff, Bool.and_eq_false_iff, Bool.not_eq_false']; omega) ?_)
          exact set (by rw [e, if_pos ⟨h, .inl (by omega)⟩])
        · (first | refine Post.brT (by simp only [Bool.or_eq_true, Bool.and_eq_true, beq_iff_eq, bne_iff_ne, decide_eq_true_eq, ne_eq, Bool.not_eq_true', beq_eq_false_iff_ne, bne_eq_false_iff_eq, decide_eq_false_iff_not, Decidable.not_not, Bool.or_eq_false_iff, Bool.and_eq_false_iff, Bool.not_eq_false']; omega) ?_ | refine Post.brF (by simp only [Bool.or_eq_true, Bool.and_eq_true, beq_iff_eq, bne_iff_ne, decide_eq_true_eq, ne_eq, Bool.not_eq_true', beq_eq_false_iff_ne, bne_eq_false_iff_eq, decide_eq_false_iff_not, Decidable.not_not, Bool.or_eq_false_iff, Bool.and_eq_false_iff, Bool.not_eq_false']; omega) ?_)
          exact right (by omega)
    · (first | refine Post.brT (by simp only [Bool.or_eq_true, Bool.and_eq_true, beq_iff_eq, bne_iff_ne, decide_eq_true_eq, ne_eq, Bool.not_eq_true', beq_eq_false_iff_ne, bne_eq_false_iff_eq, decide_eq_false_iff_not, Decidable.not_not, Bool.or_eq_false_iff, Bool.and_eq_false_iff, Bool.not_eq_false']; omega) ?_ | refine Post.brF (by simp only [Bool.or_eq_true, Bool.and_eq_true, beq_iff_eq, bne_iff_ne, decide_eq_true_eq, ne_eq, Bool.not_eq_true', beq_eq_false_iff_ne, bne_eq_false_iff_eq, decide_eq_false_iff_not, Decidable.not_not, Bool.or_eq_false_iff, Bool.and_eq_false_iff, Bool.not_eq_false']; omega) ?_)
      exact Post.pure (by rw [wrap_succ (by omega), ← part_keep n (by rw [e, if_neg (fun hh => h hh.1)])])
  · dsimp only
    unfold ref14_rule5_L3
    rw [tab_len]
    (first | refine Post.brT (by simp only [Bool.or_eq_true, Bool.and_eq_true, beq_iff_eq, bne_iff_ne, decide_eq_true_eq, ne_eq, Bool.not_eq_true', beq_eq_false_iff_ne, bne_eq_false_iff_eq, decide_eq_false_iff_not, Decidable.not_not, Bool.or_eq_false_iff, Bool.and_eq_false_iff, Bool.not_eq_false']; omega) ?_ | refine Post.brF (by simp only [Bool.or_eq_true, Bool.and_eq_true, beq_iff_eq, bne_iff_ne, decide_eq_true_eq, ne_eq, Bool.not_eq_true', beq_eq_false_iff_ne, bne_eq_false_iff_eq, decide_eq_false_iff_not, Decidable.not_not, Bool.or_eq_false_iff, Bool.and_eq_false_iff, Bool.not_eq_false']; omega) ?_)
    exact Post.pure (by rw [part_end])

/-! ### rule 6: leftovers -/
def m6 (g : Nat → Int) (k : Nat) : Int := if g k = 4 ∨ g k = 5 ∨ g k = 7 then 13 else g k
theorem leftovers_F (g : Nat → Int) (n : Nat) (hn : n ≤ 4194304) : weak_leftovers_F (tab n g) = some (tab n (m6 g), ()) := by
  unfold weak_leftovers_F weak_leftovers_T
  rw [tab_len]
  refine Post.run (Post.bnd (count (L := fun s : List Int × Int × Int => weak_leftovers_L1 s.1 s.2.1 s.2.2) n (fun k => (tab n (part (m6 g) g k), (n : Int), (k : Int))) (r := tab n (m6 g)) rfl (fun k hk => ?_) ?_) (Post.pure rfl))
  · dsimp only
    have e : m6 g k = if g k = 4 ∨ g k = 5 ∨ g k = 7 then 13 else g k := rfl
    have set : m6 g k = 13 → (Lap.next ((tab n (part (m6 g) g k)).set (Int.toNat (k : Int)) 13, (n : Int), IntKind.i64.wrap ((k : Int) + 1)) : Lap (List Int × Int × Int) (List Int)) = Lap.next (tab n (part (m6 g) g (k + 1)), (n : Int), ((k + 1 : Nat) : Int)) := fun e => by rw [toNat_nat, wrap_succ (by omega), part_set n e]
    unfold weak_leftovers_L1
    (first | refine Post.brT (by simp only [Bool.or_eq_true, Bool.and_eq_true, beq_iff_eq, bne_iff_ne, decide_eq_true_eq, ne_eq, Bool.not_eq_true', beq_eq_false_iff_ne, bne_eq_false_iff_eq, decide_eq_false_iff_not, Decidable.not_not, Bool.or_eq_false_iff, Bool.and_eq_false_iff, Bool.not_eq_false']; omega) ?_ | refine Post.brF (by simp only [Bool.or_eq_true, Bool.and_eq_true, beq_iff_eq, bne_iff_ne, decide_eq_true_eq, ne_eq, Bool.not_eq_true', beq_eq_false_iff_ne, bne_eq_false_iff_eq, decide_eq_false_iff_not, Decidable.not_not, Bool.or_eq_false_iff, Bool.and_eq_false_iff, Bool.not_eq_false']; omega) ?_)
    (first | refine ptab _ rfl (by omega) ?_ | refine Post.bnd (idx_set_at (by omega) (by simp only [List.length_set, tab_len]; omega)) ?_)
    (first | refine ptab _ rfl (by omega) ?_ | refine Post.bnd (idx_set_at (by omega) (by simp only [List.length_set, tab_len]; omega)) ?_)
    rw [part_at]
    by_cases h1 : g k = 4
    · (first | refine Post.brT (by simp only [Bool.or_eq_true, Bool.and_eq_true, beq_iff_eq, bne_iff_ne, decide_eq_true_eq, ne_eq, Bool.not_eq_true', beq_eq_false_iff_ne, bne_eq_false_iff_eq, decide_eq_false_iff_not, Decidable.not_not, Bool.or_eq_false_iff, Bool.and_eq_false_iff, Bool.not_eq_false']; omega) ?_ | refine Post.brF (by simp only [Bool.or_eq_true, Bool.and_eq_true, beq_iff_eq, bne_iff_ne, decide_eq_true_eq, ne_eq, Bool.not_eq_true', beq_eq_false_iff_ne, bne_eq_false_iff_eq, decide_eq_false_iff_not, Decidable.not_not, Bool.or_eq_false_iff, Bool.and_eq_false_iff, Bool.not_eq_false']; omega) ?_)
      (first | refine ptab _ rfl (by omega) ?_ | refine Post.bnd (idx_set_at (by omega) (by simp only [List.length_set, tab_len]; omega)) ?_)
      (first | refine ptab _ rfl (by omega) ?_ | refine Post.bnd (idx_set_at (by omega) (by simp only [List.length_set, tab_len]; omega)) ?_)
      exact Post.pure (set (by rw [e, if_pos (by omega)]))
    · (first | refine Post.brT (by simp only [Bool.or_eq_true, Bool.and_eq_true, beq_iff_eq, bne_iff_ne, decide_eq_true_eq, ne_eq, Bool.not_eq_true', beq_eq_false_iff_ne, bne_eq_false_iff_eq, decide_eq_false_iff_not, Decidable.not_not, Bool.or_eq_false_iff, Bool.and_eq_false_iff, Bool.not_eq_false']; omega) ?_ | refine Post.brF (by simp only [Bool.or_eq_true, Bool.and_eq_true, beq_iff_eq, bne_iff_ne, decide_eq_true_eq, ne_eq, Bool.not_eq_true', beq_eq_false_iff_ne, bne_eq_false_iff_eq, decide_eq_false_iff_not, Decidable.not_not, Bool.or_eq_false_iff, Bool.and_eq_false_iff, Bool.not_eq_false']; omega) ?_)
      by_cases h2 : g k = 5
      · (first | refine Post.brT (by simp only [Bool.or_eq_true, Bool.and_eq_true, beq_iff_eq, bne_iff_ne, decide_eq_true_eq, ne_eq, Bool.not_eq_true', beq_eq_false_iff_ne, bne_eq_false_iff_eq, decide_eq_false_iff_not, Decidable.not_not, Bool.or_eq_false_iff, Bool.and_eq_false_iff, Bool.not_eq_false']; omega) ?_ | refine Post.brF (by simp only [Bool.or_eq_true, Bool.and_eq_true, beq_iff_eq, bne_iff_ne, decide_eq_true_eq, ne_eq, Bool.not_eq_true', beq_eq_false_iff_ne, bne_eq_false_iff_eq, decide_eq_false_iff_not, Decidable.not_not, Bool.or_eq_false_iff, Bool.and_eq_false_iff, Bool.not_eq_false']; omega) ?_)
        (first | refine ptab _ rfl (by omega) ?_ | refine Post.bnd (idx_set_at (by omega) (by simp only [List.length_set, tab_len]; omega)) ?_)
        (first | refine ptab _ rfl (by omega) ?_ | refine Post.bnd (idx_set_at (by omega) (by simp only [List.length_set, tab_len]; omega)) ?_)
        exact Post.pure (set (by rw [e, if_pos (by omega)]))
      · (first | refine Post.brT (by simp only [Bool.or_eq_true, Bool.and_eq_true, beq_iff_eq, bne_iff_ne, decide_eq_true_eq, ne_eq, Bool.not_eq_true', beq_eq_false_iff_ne, bne_eq_false_iff_eq, decide_eq_false_iff_not, Decidable.not_not, Bool.or_eq_false_iff, Bool.and_eq_false_iff, Bool.not_eq_false']; omega) ?_ | refine Post.brF (by simp only [Bool.or_eq_true, Bool.and_eq_true, beq_iff_eq, bne_iff_ne, decide_eq_true_eq, ne_eq, Bool.not_eq_true', beq_eq_false_iff_ne, bne_eq_false_iff_eq, decide_eq_false_iff_not, Decidable.not_not, Bool.or_eq_false_iff, Bool.and_eq_false_iff, Bool.not_eq_false']; omega) ?_)
        by_cases h3 : g k = 7
        · (first | refine Post.brT (by simp only [Bool.or_eq_true, Bool.and_eq_true, beq_iff_eq, bne_iff_ne, decide_eq_true_eq, ne_eq, Bool.not_eq_true', beq_eq_false_iff_ne, bne_eq_false_iff_eq, decide_eq_false_iff_not, Decidable.not_not, Bool.or_eq_false_iff, Bool.and_eq_false_iff, Bool.not_eq_false']; omega) ?_ | refine Post.brF (by simp only [Bool.or_eq_true, Bool.and_eq_true, beq_iff_eq, bne_iff_ne, decide_eq_true_eq, ne_eq, Bool.not_eq_true', beq_eq_false_iff_ne, bne_eq_false_iff_eq, decide_eq_false_iff_not, Decidable.not_not, Bool.or_eq_false_iff, Bool.and_eq_false_iff, Bool.not_eq_false']; omega) ?_)
          (first | refine ptab _ rfl (by omega) ?_ | refine Post.bnd (idx_set_at (by omega) (by simp only [List.length_set, tab_len]; omega)) ?_)
          (first | refine ptab _ rfl (by omega) ?_ | refine Post.bnd (idx_set_at (by omega) (by simp only [List.length_set, tab_len]; omega)) ?_)
          exact Post.pure (set (by rw [e, if_pos (by omega)]))
        · (first | refine Post.brT (by simp only [Bool.or_eq_true, Bool.and_eq_true, beq_iff_eq, bne_iff_ne, decide_eq_true_eq, ne_eq, Bool.not_eq_true', beq_eq_false_iff_ne, bne_eq_false_iff_eq, decide_eq_false_iff_not, Decidable.not_not, Bool.or_eq_false_iff, Bool.and_eq_false_iff, Bool.not_eq_false']; omega) ?_ | refine Post.brF (by simp only [Bool.or_eq_true, Bool.and_eq_true, beq_iff_eq, bne_iff_ne, decide_eq_true_eq, ne_eq, Bool.not_eq_true', beq_eq_false_iff_ne, bne_eq_false_iff_eq, decide_eq_false_iff_not, Decidable.not_not, Bool.or_eq_false_iff, Bool.and_eq_false_iff, Bool.not_eq_false']; omega) ?_)
          exact Post.pure (by rw [wrap_succ (by omega), ← part_keep n (by rw [e, if_neg (by omega)])])
  · dsimp only
    unfold weak_leftovers_L1
    (first | refine Post.brT (by simp only [Bool.or_eq_true, Bool.and_eq_true, beq_iff_eq, bne_iff_ne, decide_eq_true_eq, ne_eq, Bool.not_eq_true', beq_eq_false_iff_ne, bne_eq_false_iff_eq, decide_eq_false_iff_not, Decidable.not_not, Bool.or_eq_false_iff, Bool.and_eq_false_iff, Bool.not_eq_false']; omega) ?_ | refine Post.brF (by simp only [Bool.or_eq_true, Bool.and_eq_true, beq_iff_eq, bne_iff_ne, decide_eq_true_eq, ne_eq, Bool.not_eq_true', beq_eq_false_iff_ne, bne_eq_false_iff_eq, decide_eq_false_iff_not, Decidable.not_not, Bool.or_eq_false_iff, Bool.and_eq_false_iff, Bool.not_eq_false']; omega) ?_)
    exact Post.pure (by rw [part_end])
theorem rule6_F (g : Nat → Int) (n : Nat) (hn : n ≤ 4194304) : ref14_rule6_F (tab n g) = some (tab n (m6 g)) := by
  unfold ref14_rule6_F ref14_rule6_T
  refine Post.run (Post.bnd (copied_F _ (by rw [tab_len]; exact hn)) (Post.bnd (count (L := fun s : List Int × Int => ref14_rule6_L3 s.1 s.2) n (fun k => (tab n (part (m6 g) g k), (k : Int))) (r := tab n (m6 g)) rfl (fun k hk => ?_) ?_) (Post.pure rfl)))
  · dsimp only
    have e : m6 g k = if g k = 4 ∨ g k = 5 ∨ g k = 7 then 13 else g k := rfl
    have set : m6 g k = 13 → (Lap.next ((tab n (part (m6 g) g k)).set (Int.toNat (k : Int)) 13, IntKind.i64.wrap ((k : Int) + 1)) : Lap (List Int × Int) (List Int)) = Lap.next (tab n (part (m6 g) g (k + 1)), ((k + 1 : Nat) : Int)) := fun e => by rw [toNat_nat, wrap_succ (by omega), part_set n e]
    unfold ref14_rule6_L3
    rw [tab_len]
    (first | refine Post.brT (by simp only [Bool.or_eq_true, Bool.and_eq_true, beq_iff_eq, bne_iff_ne, decide_eq_true_eq, ne_eq, Bool.not_eq_true', beq_eq_false_iff_ne, bne_eq_false_iff_eq, decide_eq_false_iff_not, Decidable.not_not, Bool.or_eq_false_iff, Bool.and_eq_false_iff, Bool.not_eq_false']; omega) ?_ | refine Post.brF (by simp only [Bool.or_eq_true, Bool.and_eq_true, beq_iff_eq, bne_iff_ne, decide_eq_true_eq, ne_eq, Bool.not_eq_true', beq_eq_false_iff_ne, bne_eq_false_iff_eq, decide_eq_false_iff_not, Decidable.not_not, Bool.or_eq_false_iff, Bool.and_eq_false_iff, Bool.not_eq_false']; omega) ?_)
    (first | refine ptab _ rfl (by omega) ?_ | refine Post.bnd (idx_set_at (by omega) (by simp only [List.length_set, tab_len]; omega)) ?_)
    rw [part_at]
    by_cases h1 : g k = 4
    · (first | refine Post.brT (by simp only [Bool.or_eq_true, Bool.and_eq_true, beq_iff_eq, bne_iff_ne, decide_eq_true_eq, ne_eq, Bool.not_eq_true', beq_eq_false_iff_ne, bne_eq_false_iff_eq, decide_eq_false_iff_not, Decidable.not_not, Bool.or_eq_false_iff, Bool.and_eq_false_iff, Bool.not_eq_false']; omega) ?_ | refine Post.brF (by simp only [Bool.or_eq_true, Bool.and_eq_true, beq_iff_eq, bne_iff_ne, decide_eq_true_eq, ne_eq, Bool.not_eq_true', beq_eq_false_iff_ne, bne_eq_false_iff_eq, decide_eq_false_iff_not, Decidable.not_not, Bool.or_eq_false_iff, Bool.and_eq_false_iff, Bool.not_eq_false']; omega) ?_)
      (first | refine ptab _ rfl (by omega) ?_ | refine Post.bnd (idx_set_at (by omega) (by simp only [List.length_set, tab_len]; omega)) ?_)
      exact Post.pure (set (by rw [e, if_pos (by omega)]))
    · (first | refine Post.brT (by simp only [Bool.or_eq_true, Bool.and_eq_true, beq_iff_eq, bne_iff_ne, decide_eq_true_eq, ne_eq, Bool.not_eq_true', beq_eq_false_iff_ne, bne_eq_false_iff_eq, decide_eq_false_iff_not, Decidable.not_not, Bool.or_eq_false_iff, Bool.and_eq_false_iff, Bool.not_eq_false']; omega) ?_ | refine Post.brF (by simp only [Bool.or_eq_true, Bool.and_eq_true, beq_iff_eq, bne_iff_ne, decide_eq_true_eq, ne_eq, Bool.not_eq_true', beq_eq_false_iff_ne, bne_eq_false_iff_eq, decide_eq_false_iff_not, Decidable.not_not, Bool.or_eq_false_iff, Bool.and_eq_false_iff, Bool.not_eq_false']; omega) ?_)
      (first | refine ptab _ rfl (by omega) ?_ | refine Post.bnd (idx_set_at (by omega) (by simp only [List.length_set, tab_len]; omega)) ?_)
      rw [part_at]
      by_cases h2 : g k = 5
      · (first | refine Post.brT (by simp only [Bool.or_eq_true, Bool.and_eq_true, beq_iff_eq, bne_iff_ne, decide_eq_true_eq, ne_eq, Bool.not_eq_true', beq_eq_false_iff_ne, bne_eq_false_iff_eq, decide_eq_false_iff_not, Decidable.not_not, Bool.or_eq_false_iff, Bool.and_eq_false_iff, Bool.not_eq_false']; omega) ?_ | refine Post.brF (by simp only [Bool.or_eq_true, Bool.and_eq_true, beq_iff_eq, bne_iff_ne, decide_eq_true_eq, ne_eq, Bool.not_eq_true', beq_eq_false_iff_ne, bne_eq_false_iff_eq, decide_eq_false_iff_not, Decidable.not_not, Bool.or_eq_false_iff, Bool.and_eq_false_iff, Bool.not_eq_false']; omega) ?_)
        (first | refine ptab _ rfl (by omega) ?_ | refine Post.bnd (idx_set_at (by omega) (by simp only [List.length_set, tab_len]; omega)) ?_)
        exact Post.pure (set (by rw [e, if_pos (by omega)]))
      · (first | refine Post.brT (by simp only [Bool.or_eq_true, Bool.and_eq_true, beq_iff_eq, bne_iff_ne, decide_eq_true_eq, ne_eq, Bool.not_eq_true', beq_eq_false_iff_ne, bne_eq_false_iff_eq, decide_eq_false_iff_not, Decidable.not_not, Bool.or_eq_false_iff, Bool.and_eq_false_iff, Bool.not_eq_false']; omega) ?_ | refine Post.brF (by simp only [Bool.or_eq_true, Bool.and_eq_true, beq_iff_eq, bne_iff_ne, decide_eq_true_eq, ne_eq, Bool.not_eq_true', beq_eq_false_iff_ne, bne_eq_false_iff_eq, decide_eq_false_iff_not, Decidable.not_not, Bool.or_eq_false_iff, Bool.and_eq_false_iff, Bool.not_eq_false']; omega) ?_)
        (first | refine ptab _ rfl (by omega) ?_ | refine Post.bnd (idx_set_at (by omega) (by simp only [List.length_set, tab_len]; omega)) ?_)
        rw [part_at]
        by_cases h3 : g k = 7
        · (first | refine Post.brT (by simp only [Bool.or_eq_true, Bool.and_eq_true, beq_iff_eq, bne_iff_ne, decide_eq_true_eq, ne_eq, Bool.not_eq_true', beq_eq_false_iff_ne, bne_eq_false_iff_eq, decide_eq_false_iff_not, Decidable.not_not, Bool.or_eq_false_iff, Bool.and_eq_false_iff, Bool.not_eq_false']; omega) ?_ | refine Post.brF (by simp only [Bool.or_eq_true, Bool.and_eq_true, beq_iff_eq, bne_iff_ne, decide_eq_true_eq, ne_eq, Bool.not_eq_true', beq_eq_false_iff_ne, bne_eq_false_iff_eq, decide_eq_false_iff_not, Decidable.not_not, Bool.or_eq_false_iff, Bool.and_eq_false_iff, Bool.not_eq_false']; omega) ?_)
          (first | refine ptab _ rfl (by omega) ?_ | refine Post.bnd (idx_set_at (by omega) (by simp only [List.length_set, tab_len]; omega)) ?_)
          exact Post.pure (set (by rw [e, if_pos (by omega)]))
        · (first | refine Post.brT (by simp only [Bool.or_eq_true, Bool.and_eq_true, beq_iff_eq, bne_iff_ne, decide_eq_true_eq, ne_eq, Bool.not_eq_true', beq_eq_false_iff_ne, bne_eq_false_iff_eq, decide_eq_false_iff_not, Decidable.not_not, Bool.or_eq_false_iff, Bool.and_eq_false_iff, Bool.not_eq_false']; omega) ?_ | refine Post.brF (by simp only [Bool.or_eq_true, Bool.and_eq_true, beq_iff_eq, bne_iff_ne, decide_eq_true_eq, ne_eq, Bool.not_eq_true', beq_eq_false_iff_ne, bne_eq_false_iff_eq, decide_eq_false_iff_not, Decidable.not_not, Bool.or_eq_false_iff, Bool.and_eq_false_iff, Bool.not_eq_false']; omega) ?_)
          exact Post.pure (by rw [wrap_succ (by omega), ← part_keep n (by rw [e, if_neg (by omega)])])
  · dsimp only
    unfold ref14_rule6_L3
    rw [tab_len]
    (first | refine Post.brT (by simp only [Bool.or_eq_true, Bool.and_eq_true, beq_iff_eq, bne_iff_ne, decide_eq_true_eq, ne_eq, Bool.not_eq_true', beq_eq_false_iff_ne, bne_eq_false_iff_eq, decide_eq_false_iff_not, Decidable.not_not, Bool.or_eq_false_iff, Bool.and_eq_false_iff, Bool.not_eq_false']; omega) ?_ | refine Post.brF (by simp only [Bool.or_eq_true, Bool.and_eq_true, beq_iff_eq, bne_iff_ne, decide_eq_true_eq, ne_eq, Bool.not_eq_true', beq_eq_false_iff_ne, bne_eq_false_iff_eq, decide_eq_false_iff_not, Decidable.not_not, Bool.or_eq_false_iff, Bool.and_eq_false_iff, Bool.not_eq_false']; omega) ?_)
    exact Post.pure (by rw [part_end])

/-! ### rule 7: latin numbers -/
def s7 (sos : Int) (g : Nat → Int) : Nat → Int
  | 0 => sos
  | i + 1 => if g i = 0 ∨ g i = 1 then g i else s7 sos g i
theorem s7_succ (sos : Int) (g : Nat → Int) (k : Nat) : s7 sos g (k + 1) = if g k = 0 ∨ g k = 1 then g k else s7 sos g k := rfl
def m7 (sos : Int) (g : Nat → Int) (k : Nat) : Int := if g k = 3 ∧ s7 sos g k = 0 then 0 else g k
theorem s7_s2 (sos : Int) (g : Nat → Int) (h : ∀ i, g i ≠ 2) : ∀ k, s2 sos g k = s7 sos g k
  | 0 => rfl
  | k + 1 => by
    rw [s2_succ, s7_succ, s7_s2 sos g h k]
    have := h k
    by_cases h1 : g k = 0 ∨ g k = 1
    · rw [if_pos (by omega), if_pos h1]
    · rw [if_neg (by omega), if_neg h1]

theorem latinNumbers_F (sos : Int) (g : Nat → Int) (n : Nat) (hn : n ≤ 4194304) : weak_latinNumbers_F (tab n g) sos = some (tab n (m7 sos g), ()) := by
  unfold weak_latinNumbers_F weak_latinNumbers_T
  rw [tab_len]
  refine Post.run (Post.bnd (count (L := fun s : List Int × Int × Int × Int => weak_latinNumbers_L2 s.1 s.2.1 s.2.2.1 s.2.2.2) n (fun k => (tab n (part (m7 sos g) g k), s7 sos g k, (n : Int), (k : Int))) (r := tab n (m7 sos g)) rfl (fun k hk => ?_) ?_) (Post.pure rfl))
  · dsimp only
    have e : m7 sos g k = if g k = 3 ∧ s7 sos g k = 0 then 0 else g k := rfl
    have f := s7_succ sos g k
    unfold weak_latinNumbers_L2
    (first | refine Post.brT (by simp only [Bool.or_eq_true, Bool.and_eq_true, beq_iff_eq, bne_iff_ne, decide_eq_true_eq, ne_eq, Bool.not_eq_true', beq_eq_false_iff_ne, bne_eq_false_iff_eq, decide_eq_false_iff_not, Decidable.not_not, Bool.or_eq_false_iff, Bool.and_eq_false_iff, Bool.not_eq_false']; omega) ?_ | refine Post.brF (by simp only [Bool.or_eq_true, Bool.and_eq_true, beq_iff_eq, bne_iff_ne, decide_eq_true_eq, ne_eq, Bool.not_eq_true', beq_eq_false_iff_ne, bne_eq_false_iff_eq, decide_eq_false_iff_not, Decidable.not_not, Bool.or_eq_false_iff, Bool.and_eq_false_iff, Bool.not_eq_false']; omega) ?_)
    (first | refine ptab _ rfl (by omega) ?_ | refine Post.bnd (idx_set_at (by omega) (by simp only [List.length_set, tab_len]; omega)) ?_)
    (first | refine ptab _ rfl (by omega) ?_ | refine Post.bnd (idx_set_at (by omega) (by simp only [List.length_set, tab_len]; omega)) ?_)
    rw [part_at]
    have keep : ∀ {v : Int}, ¬ (g k = 3 ∧ s7 sos g k = 0) → s7 sos g (k + 1) = v → (Lap.next (tab n (part (m7 sos g) g k), v, (n : Int), IntKind.i64.wrap ((k : Int) + 1)) : Lap (List Int × Int × Int × Int) (List Int)) = Lap.next (tab n (part (m7 sos g) g (k + 1)), s7 sos g (k + 1), (n : Int), ((k + 1 : Nat) : Int)) := fun h1 h2 => by rw [wrap_succ (by omega), ← part_keep n (by rw [e, if_neg h1]), h2]
    by_cases h1 : g k = 0
    · rw [if_pos (by omega)] at f
      (first | refine Post.brT (by simp only [Bool.or_eq_true, Bool.and_eq_true, beq_iff_eq, bne_iff_ne, decide_eq_true_eq, ne_eq, Bool.not_eq_true', beq_eq_false_iff_ne, bne_eq_false_iff_eq, decide_eq_false_iff_not, Decidable.not_not, Bool.or_eq_false_iff, Bool.and_eq_false_iff, Bool.not_eq_false']; omega) ?_ | refine Post.brF (by simp only [Bool.or_eq_true, Bool.and_eq_true, beq_iff_eq, bne_iff_ne, decide_eq_true_eq, ne_eq, Bool.not_eq_true', beq_eq_false_iff_ne, bne_eq_false_iff_eq, decide_eq_false_iff_not, Decidable.not_not, Bool.or_eq_false_iff, Bool.and_eq_false_iff, Bool.not_eq_false']; omega) ?_)
      (first | refine Post.brT (by simp only [Bool.or_eq_true, Bool.and_eq_true, beq_iff_eq, bne_iff_ne, decide_eq_true_eq, ne_eq, Bool.not_eq_true', beq_eq_false_iff_ne, bne_eq_false_iff_eq, decide_eq_false_iff_not, Decidable.not_not, Bool.or_eq_false_iff, Bool.and_eq_false_iff, Bool.not_eq_false']; omega) ?_ | refine Post.brF (by simp only [Bool.or_eq_true, Bool.and_eq_true, beq_iff_eq, bne_iff_ne, decide_eq_true_eq, ne_eq, Bool.not_eq_true', beq_eq_false_iff_ne, bne_eq_false_iff_eq, decide_eq_false_iff_not, Decidable.not_not, Bool.or_eq_false_iff, Bool.and_eq_false_iff, Bool.not_eq_false']; omega) ?_)
      exact Post.pure (keep (by omega) f)
    · (first | refine Post.brT (by simp only [Bool.or_eq_true, Bool.and_eq_true, beq_iff_eq, bne_iff_ne, decide_eq_true_eq, ne_eq, Bool.not_eq_true', beq_eq_false_iff_ne, bne_eq_false_iff_eq, decide_eq_false_iff_not, Decidable.not_not, Bool.or_eq_false_iff, Bool.and_eq_false_iff, Bool.not_eq_false']; omega) ?_ | refine Post.brF (by simp only [Bool.or_eq_true, Bool.and_eq_true, beq_iff_eq, bne_iff_ne, decide_eq_true_eq, ne_eq, Bool.not_eq_true', beq_eq_false_iff_ne, bne_eq_false_iff_eq, decide_eq_false_iff_not, Decidable.not_not, Bool.or_eq_false_iff, Bool.and_eq_false_iff, Bool.not_eq_false']; omega) ?_)
      by_cases h2 : g k = 1
      · rw [if_pos (by omega)] at f
        (first | refine Post.brT (by simp only [Bool.or_eq_true, Bool.and_eq_true, beq_iff_eq, bne_iff_ne, decide_eq_true_eq, ne_eq, Bool.not_eq_true', beq_eq_false_iff_ne, bne_eq_false_iff_eq, decide_eq_false_iff_not, Decidable.not_not, Bool.or_eq_false_iff, Bool.and_eq_false_iff, Bool.not_eq_false']; omega) ?_ | refine Post.brF (by simp only [Bool.or_eq_true, Bool.and_eq_true, beq_iff_eq, bne_iff_ne, decide_eq_true_eq, ne_eq, Bool.not_eq_true', beq_eq_false_iff_ne, bne_eq_false_iff_eq, decide_eq_false_iff_not, Decidable.not_not, Bool.or_eq_false_iff, Bool.and_eq_false_iff, Bool.not_eq_false']; omega) ?_)
        (first | refine Post.brT (by simp only [Bool.or_eq_true, Bool.and_eq_true, beq_iff_eq, bne_iff_ne, decide_eq_true_eq, ne_eq, Bool.not_eq_true', beq_eq_false_iff_ne, bne_eq_false_iff_eq, decide_eq_false_iff_not, Decidable.not_not, Bool.or_eq_false_iff, Bool.and_eq_false_iff, Bool.not_eq_false']; omega) ?_ | refine Post.brF (by simp only [Bool.or_eq_true, Bool.and_eq_true, beq_iff_eq, bne_iff_ne, decide_eq_true_eq, ne_eq, Bool.not_eq_true', beq_eq_false_iff_ne, bne_eq_false_iff_eq, decide_eq_false_iff_not, Decidable.not_not, Bool.or_eq_false_iff, Bool.and_eq_false_iff, Bool.not_eq_false']; omega) ?_)
        exact Post.pure (keep (by omega) f)
      · rw [if_neg (by omega)] at f
        (first | refine Post.brT (by simp only [Bool.or_eq_true, Bool.and_eq_true, beq_iff_eq, bne_iff_ne, decide_eq_true_eq, ne_eq, Bool.not_eq_true', beq_eq_false_iff_ne, bne_eq_false_iff_eq, decide_eq_false_iff_not, Decidable.not_not, Bool.or_eq_false_iff, Bool.and_eq_false_iff, Bool.not_eq_false']; omega) ?_ | refine Post.brF (by simp only [Bool.or_eq_true, Bool.and_eq_true, beq_iff_eq, bne_iff_ne, decide_eq_true_eq, ne_eq, Bool.not_eq_true', beq_eq_false_iff_ne, bne_eq_false_iff_eq, decide_eq_false_iff_not, Decidable.not_not, Bool.or_eq_false_iff, Bool.and_eq_false_iff, Bool.not_eq_false']; omega) ?_)
        by_cases h3 : g k = 3
        · (first | refine Post.brT (by simp only [Bool.or_eq_true, Bool.and_eq_true, beq_iff_eq, bne_iff_ne, decide_eq_true_eq, ne_eq, Bool.not_eq_true', beq_eq_false_iff_ne, bne_eq_false_iff_eq, decide_eq_false_iff_not, Decidable.not_not, Bool.or_eq_false_iff, Bool.and_eq_false_iff, Bool.not_eq_false']; omega) ?_ | refine Post.brF (by simp only [Bool.or_eq_true, Bool.and_eq_true, beq_iff_eq, bne_iff_ne, decide_eq_true_eq, ne_eq, Bool.not_eq_true', beq_eq_false_iff_ne, bne_eq_false_iff_eq, decide_eq_false_iff_not, Decidable.not_not, Bool.or_eq_false_iff, Bool.and_eq_false_iff, Bool.not_eq_false']; omega) ?_)
          by_cases h4 : s7 sos g k = 0
          · (first | refine Post.brT (by simp only [Bool.or_eq_true, Bool.and_eq_true, beq_iff_eq, bne_iff_ne, decide_eq_true_eq, ne_eq, Bool.not_eq_true', beq_eq_false_iff_ne, bne_eq_false_iff_eq, decide_eq_false_iff_not, Decidable.not_not, Bool.or_eq_false_iff, Bool.and_eq_false_iff, Bool.not_eq_false']; omega) ?_ | refine Post.brF (by simp only [Bool.or_eq_true, Bool.and_eq_true, beq_iff_eq, bne_iff_ne, decide_eq_true_eq, ne_eq, Bool.not_eq_true', beq_eq_false_iff_ne, bne_eq_false_iff_eq, decide_eq_false_iff_not, Decidable.not_not, Bool.or_eq_false_iff, Bool.and_eq_false_iff, Bool.not_eq_false']; omega) ?_)
            (first | refine ptab _ rfl (by omega) ?_ | refine Post.bnd (idx_set_at (by omega) (by simp only [List.length_set, tab_len]; omega)) ?_)
            (first | refine ptab _ rfl (by omega) ?_ | refine Post.bnd (idx_set_at (by omega) (by simp only [List.length_set, tab_len]; omega)) ?_)
            exact Post.pure (by rw [toNat_nat, wrap_succ (by omega), part_set n (by rw [e, if_pos ⟨h3, h4⟩]), f])
          · (first | refine Post.brT (by simp only [Bool.or_eq_true, Bool.and_eq_true, beq_iff_eq, bne_iff_ne, decide_eq_true_eq, ne_eq, Bool.not_eq_true', beq_eq_false_iff_ne, bne_eq_false_iff_eq, decide_eq_false_iff_not, Decidable.not_not, Bool.or_eq_false_iff, Bool.and_eq_false_iff, Bool.not_eq_false']; omega) ?_ | refine Post.brF (by simp only [Bool.or_eq_true, Bool.and_eq_true, beq_iff_eq, bne_iff_ne, decide_eq_true_eq, ne_eq, Bool.not_eq_true', beq_eq_false_iff_ne, bne_eq_false_iff_eq, decide_eq_false_iff_not, Decidable.not_not, Bool.or_eq_false_iff, Bool.and_eq_false_iff, Bool.not_eq_false']; omega) ?_)
            exact Post.pure (keep (by omega) f)
        · (first | refine Post.brT (by simp only [Bool.or_eq_true, Bool.and_eq_true, beq_iff_eq, bne_iff_ne, decide_eq_true_eq, ne_eq, Bool.not_eq_true', beq_eq_false_iff_ne, bne_eq_false_iff_eq, decide_eq_false_iff_not, Decidable.not_not, Bool.or_eq_false_iff, Bool.and_eq_false_iff, Bool.not_eq_false']; omega) ?_ | refine Post.brF (by simp only [Bool.or_eq_true, Bool.and_eq_true, beq_iff_eq, bne_iff_ne, decide_eq_true_eq, ne_eq, Bool.not_eq_true', beq_eq_false_iff_ne, bne_eq_false_iff_eq, decide_eq_false_iff_not, Decidable.not_not, Bool.or_eq_false_iff, Bool.and_eq_false_iff, Bool.not_eq_false']; omega) ?_)
          exact Post.pure (keep (by omega) f)
  · dsimp only
    unfold weak_latinNumbers_L2
    (first | refine Post.brT (by simp only [Bool.or_eq_true, Bool.and_eq_true, beq_iff_eq, bne_iff_ne, decide_eq_true_eq, ne_eq, Bool.not_eq_true', beq_eq_false_iff_ne, bne_eq_false_iff_eq, decide_eq_false_iff_not, Decidable.not_not, Bool.or_eq_false_iff, Bool.and_eq_false_iff, Bool.not_eq_false']; omega) ?_ | refine Post.brF (by simp only [Bool.or_eq_true, Bool.and_eq_true, beq_iff_eq, bne_iff_ne, decide_eq_true_eq, ne_eq, Bool.not_eq_true', beq_eq_false_iff_ne, bne_eq_false_iff_eq, decide_eq_false_iff_not, Decidable.not_not, Bool.or_eq_false_iff, Bool.and_eq_false_iff, Bool.not_eq_false']; omega) ?_)
    exact Post.pure (by rw [part_end])
theorem rule7_F (sos : Int) (g : Nat → Int) (h2 : ∀ i, g i ≠ 2) (n : Nat) (hn : n ≤ 4194304) : ref14_rule7_F (tab n g) sos = some (tab n (m7 sos g)) := by
  unfold ref14_rule7_F ref14_rule7_T
  refine Post.run (Post.bnd (copied_F _ (by rw [tab_len]; exact hn)) (Post.bnd (count (L := fun s : List Int × Int × List Int × Int => ref14_rule7_L3 s.1 s.2.1 s.2.2.1 s.2.2.2) n (fun k => (tab n g, sos, tab n (part (m7 sos g) g k), (k : Int))) (r := tab n (m7 sos g)) rfl (fun k hk => ?_) ?_) (Post.pure rfl)))
  · dsimp only
    have e : m7 sos g k = if g k = 3 ∧ s7 sos g k = 0 then 0 else g k := rfl
    unfold ref14_rule7_L3
    rw [tab_len]
    (first | refine Post.brT (by simp only [Bool.or_eq_true, Bool.and_eq_true, beq_iff_eq, bne_iff_ne, decide_eq_true_eq, ne_eq, Bool.not_eq_true', beq_eq_false_iff_ne, bne_eq_false_iff_eq, decide_eq_false_iff_not, Decidable.not_not, Bool.or_eq_false_iff, Bool.and_eq_false_iff, Bool.not_eq_false']; omega) ?_ | refine Post.brF (by simp only [Bool.or_eq_true, Bool.and_eq_true, beq_iff_eq, bne_iff_ne, decide_eq_true_eq, ne_eq, Bool.not_eq_true', beq_eq_false_iff_ne, bne_eq_false_iff_eq, decide_eq_false_iff_not, Decidable.not_not, Bool.or_eq_false_iff, Bool.and_eq_false_iff, Bool.not_eq_false']; omega) ?_)
    (first | refine ptab _ rfl (by omega) ?_ | refine Post.bnd (idx_set_at (by omega) (by simp only [List.length_set, tab_len]; omega)) ?_)
    by_cases h1 : g k = 3
    · (first | refine Post.brT (by simp only [Bool.or_eq_true, Bool.and_eq_true, beq_iff_eq, bne_iff_ne, decide_eq_true_eq, ne_eq, Bool.not_eq_true', beq_eq_false_iff_ne, bne_eq_false_iff_eq, decide_eq_false_iff_not, Decidable.not_not, Bool.or_eq_false_iff, Bool.and_eq_false_iff, Bool.not_eq_false']; omega) ?_ | refine Post.brF (by simp only [Bool.or_eq_true, Bool.and_eq_true, beq_iff_eq, bne_iff_ne, decide_eq_true_eq, ne_eq, Bool.not_eq_true', beq_eq_false_iff_ne, bne_eq_false_iff_eq, decide_eq_false_iff_not, Decidable.not_not, Bool.or_eq_false_iff, Bool.and_eq_false_iff, Bool.not_eq_false']; omega) ?_)
      refine Post.bnd (refStrong_F sos g n k hn (by omega)) ?_
      rw [s7_s2 sos g h2]
      by_cases h3 : s7 sos g k = 0
      · (first | refine Post.brT (by simp only [Bool.or_eq_true, Bool.and_eq_true, beq_iff_eq, bne_iff_ne, decide_eq_true_eq, ne_eq, Bool.not_eq_true', beq_eq_false_iff_ne, bne_eq_false_iff_eq, decide_eq_false_iff_not, Decidable.not_not, Bool.or_eq_false_iff, Bool.and_eq_false_iff, Bool.not_eq_false']; omega) ?_ | refine Post.brF (by simp only [Bool.or_eq_true, Bool.and_eq_true, beq_iff_eq, bne_iff_ne, decide_eq_true_eq, ne_eq, Bool.not_eq_true', beq_eq_false_iff_ne, bne_eq_false_iff_eq, decide_eq_false_iff_not, Decidable.not_not, Bool.or_eq_false_iff, Bool.and_eq_false_iff, Bool.not_eq_false']; omega) ?_)
        rw [if_pos ⟨h1, h3⟩] at e
        (first | refine ptab _ rfl (by omega) ?_ | refine Post.bnd (idx_set_at (by omega) (by simp only [List.length_set, tab_len]; omega)) ?_)
        exact Post.pure (by rw [toNat_nat, wrap_succ (by omega), part_set n e])
      · (first | refine Post.brT (by simp only [Bool.or_eq_true, Bool.and_eq_true, beq_iff_eq, bne_iff_ne, decide_eq_true_eq, ne_eq, Bool.not_eq_true', beq_eq_false_iff_ne, bne_eq_false_iff_eq, decide_eq_false_iff_not, Decidable.not_not, Bool.or_eq_false_iff, Bool.and_eq_false_iff, Bool.not_eq_false']; omega) ?_ | refine Post.brF (by simp only [Bool.or_eq_true, Bool.and_eq_true, beq_iff_eq, bne_iff_ne, decide_eq_true_eq, ne_eq, Bool.not_eq_true', beq_eq_false_iff_ne, bne_eq_false_iff_eq, decide_eq_false_iff_not, Decidable.not_not, Bool.or_eq_false_iff, Bool.and_eq_false_iff, Bool.not_eq_false']; omega) ?_)
        rw [if_neg (by omega)] at e
        exact Post.pure (by rw [wrap_succ (by omega), ← part_keep n e])
    · (first | refine Post.brT (by simp only [Bool.or_eq_true, Bool.and_eq_true, beq_iff_eq, bne_iff_ne, decide_eq_true_eq, ne_eq, Bool.not_eq_true', beq_eq_false_iff_ne, bne_eq_false_iff_eq, decide_eq_false_iff_not, Decidable.not_not, Bool.or_eq_false_iff, Bool.and_eq_false_iff, Bool.not_eq_false']; omega) ?_ | refine Post.brF (by simp only [Bool.or_eq_true, Bool.and_eq_true, beq_iff_eq, bne_iff_ne, decide_eq_true_eq, ne_eq, Bool.not_eq_true', beq_eq_false_iff_ne, bne_eq_false_iff_eq, decide_eq_false_iff_not, Decidable.not_not, Bool.or_eq_false_iff, Bool.and_eq_false_iff, Bool.not_eq_false']; omega) ?_)
      rw [if_neg (by omega)] at e
      exact Post.pure (by rw [wrap_succ (by omega), ← part_keep n e])
  · dsimp only
    unfold ref14_rule7_L3
    rw [tab_len]
    (first | refine Post.brT (by simp only [Bool.or_eq_true, Bool.and_eq_true, beq_iff_eq, bne_iff_ne, decide_eq_true_eq, ne_eq, Bool.not_eq_true', beq_eq_false_iff_ne, bne_eq_false_iff_eq, decide_eq_false_iff_not, Decidable.not_not, Bool.or_eq_false_iff, Bool.and_eq_false_iff, Bool.not_eq_false']; omega) ?_ | refine Post.brF (by simp only [Bool.or_eq_true, Bool.and_eq_true, beq_iff_eq, bne_iff_ne, decide_eq_true_eq, ne_eq, Bool.not_eq_true', beq_eq_false_iff_ne, bne_eq_false_iff_eq, decide_eq_false_iff_not, Decidable.not_not, Bool.or_eq_false_iff, Bool.and_eq_false_iff, Bool.not_eq_false']; omega) ?_)
    exact Post.pure (by rw [part_end])

/-! ### all rules -/
def W (n : Nat) (sos : Int) (g : Nat → Int) : Nat → Int := m7 sos (m6 (m5 n sos (m4 n (m3 (m2 sos (m1 sos g))))))
theorem no2 (n : Nat) (sos : Int) (g : Nat → Int) : ∀ i, m6 (m5 n sos (m4 n (m3 g))) i ≠ 2 := by
  have h3 : ∀ i, m3 g i ≠ 2 := fun i => by unfold m3; split <;> omega
  have h4 : ∀ i, m4 n (m3 g) i ≠ 2 := by
    intro i
    induction i with
    | zero => exact h3 0
    | succ i ih =>
      unfold m4
      split
      · exact ih
      · exact h3 _
  intro i
  have h5 : m5 n sos (m4 n (m3 g)) i ≠ 2 := by
    have := h4 i
    unfold m5
    split <;> omega
  unfold m6
  split <;> omega

theorem resolve_F (sos : Int) (hs : sos = 0 ∨ sos = 1) (g : Nat → Int) (n : Nat) (hn : n ≤ 4194304) : weak_Resolve_F (tab n g) sos = some (tab n (W n sos g)) := by
  unfold weak_Resolve_F weak_Resolve_T
  exact Post.run (Post.bnd (clone_F _ (by rw [tab_len]; exact hn)) (Post.bnd (marks_F sos g n hn) (Post.bnd (arabicNumbers_F sos _ n hn) (Post.bnd (arabicLetters_F _ n hn) (Post.bnd (separators_F sos hs _ n hn) (Post.bnd (terminators_F sos _ n hn) (Post.bnd (leftovers_F _ n hn) (Post.bnd (latinNumbers_F sos _ n hn) (Post.pure rfl)))))))))
theorem weak_F (sos : Int) (hs : sos = 0 ∨ sos = 1) (g : Nat → Int) (n : Nat) (hn : n ≤ 4194304) : ref14_Weak_F (tab n g) sos = some (tab n (W n sos g)) := by
  unfold ref14_Weak_F ref14_Weak_T
  exact Post.run (Post.bnd (rule1_F sos g n hn) (Post.bnd (rule2_F sos _ n hn) (Post.bnd (rule3_F _ n hn) (Post.bnd (rule4_F _ n hn) (Post.bnd (rule5_F sos hs _ n hn) (Post.bnd (rule6_F _ n hn) (Post.bnd (rule7_F sos _ (no2 _ _ _) n hn) (Post.pure rfl))))))))

end Go.Proofs.Ytgpmfpigldkgfaa
