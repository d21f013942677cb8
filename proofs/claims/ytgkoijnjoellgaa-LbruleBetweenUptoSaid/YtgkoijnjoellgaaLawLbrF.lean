/-
  The document's own answer, of the units whatever they are, is the program's.
-/
import Derived.Test.YtgkoijnjoellgaaLawLbrE
namespace Go.Proofs.Ytgkoijnjoellgaa
set_option linter.all false

theorem counted_eq (c : Int) (nu cl od : Bool) : countedB c nu cl od = ((c == 27 && nu) || (monB c && (nu || cl)) || (c == 33 && od)) := by
  unfold countedB monB
  by_cases h1 : c = 27
  · subst h1; cases nu <;> rfl
  · rw [if_neg h1]
    by_cases h2 : c = 29 ∨ c = 28
    · rw [if_pos h2]
      rcases h2 with rfl | rfl <;> cases nu <;> cases cl <;> rfl
    · rw [if_neg h2]
      have h3 : (c == 29) = false := by simp; omega
      have h4 : (c == 28) = false := by simp; omega
      have h5 : (c == 27) = false := by simpa using h1
      rw [h3, h4, h5]
      by_cases h6 : c = 33
      · subst h6; cases od <;> rfl
      · have h7 : (c == 33) = false := by simpa using h6
        rw [if_neg h6, h7]
        rfl
theorem late_split (a c : Int) (nu nu1 od b2 n27 : Bool) : late a c nu nu1 od b2 n27 = (countedB c nu (nu1 && (a == 19 || a == 20)) od || late a c false false false b2 n27) := by
  rw [counted_eq]
  unfold late
  cases nu <;> cases nu1 <;> cases od <;> simp only [Bool.true_and, Bool.false_and, Bool.and_true, Bool.and_false, Bool.or_false, Bool.false_or, Bool.true_or] <;> ac_rfl

/-! ### what the document's answer looks at -/
@[reducible] def rz : Int × Bool := (0, false)
def ovr (f : Nat → Int) : Nat → Int
  | 0 => -1
  | k + 1 => if f k = 9 then ovr f k else f k
theorem sol_ovr (f : Nat → Int) : ∀ k, sol f k = ovr f k ∨ (sol f k = 9 ∧ ovr f k = -1)
  | 0 => .inr ⟨rfl, rfl⟩
  | k + 1 => by
    unfold sol ovr
    by_cases h : f k = 9
    · rw [if_pos h, if_pos h]
      exact sol_ovr f k
    · rw [if_neg h, if_neg h]
      exact .inl rfl
theorem early_ovr (f : Nat → Int) (k : Nat) (a c : Int) (j : Bool) : early a c (sol f k) j = early a c (ovr f k) j := by
  rcases sol_ovr f k with h | ⟨h1, h2⟩
  · rw [h]
  · rw [h1, h2]
    unfold early
    have : Sp 9 c ↔ Sp (-1) c := by unfold Sp; omega
    simp only [this]
    rfl
@[reducible] def rcl (l : List (Int × Bool)) (k : Nat) : Int := (l.getD k rz).1
theorem overSpaces_F (l : List (Int × Bool)) (k : Nat) (hl : l.length ≤ 4194304) (hk : k ≤ l.length) : ref20_overSpaces_F l (k : Int) = some (ovr (rcl l) k) := by
  unfold ref20_overSpaces_F ref20_overSpaces_T
  rw [wrap64 (by omega) (by omega)]
  refine Post.run (Post.alt (R := fun r => match r with | .inl _ => ovr (rcl l) k = -1 | .inr v => ovr (rcl l) k = v) (loop_ex (L := fun s : List (Int × Bool) × Int => ref20_overSpaces_L2 s.1 s.2) (fun s => ∃ m : Nat, m ≤ k ∧ s = (l, (m : Int) - 1) ∧ ovr (rcl l) k = ovr (rcl l) m) (fun s => (s.2 + 1).toNat) ?_ ⟨k, Nat.le_refl _, rfl, rfl⟩) (fun _ h => Post.pure (show (-1 : Int) = _ from h.symm)) (fun v h => Post.pure (show v = _ from h.symm)))
  rintro s ⟨m, hm, rfl, h⟩
  dsimp only
  unfold ref20_overSpaces_L2
  cases m with
  | zero => exact Post.brF (by rw [decide_eq_false_iff_not]; omega) (Post.pure h)
  | succ m =>
    rw [show ((m + 1 : Nat) : Int) - 1 = (m : Int) by omega]
    refine Post.brT (by rw [decide_eq_true_eq]; omega) (Post.idx rz m rfl (by omega) ?_)
    rw [show ovr (rcl l) (m + 1) = if rcl l m = 9 then ovr (rcl l) m else rcl l m from rfl] at h
    by_cases e : rcl l m = 9
    · rw [if_pos e] at h
      refine Post.brF (bne_eq_false_iff_eq.2 e) (Post.pure ?_)
      rw [wrap64 (by omega) (by omega)]
      exact ⟨⟨m, by omega, rfl, h⟩, by dsimp only; omega⟩
    · rw [if_neg e] at h
      exact Post.brT (bne_iff_ne.2 e) (Post.idx rz m rfl (by omega) (Post.pure h))
theorem numeric_F (l : List (Int × Bool)) (k : Nat) (hl : l.length ≤ 4194304) (hk : k ≤ l.length) : ref20_numeric_F l (k : Int) = some (num (rcl l) k) := by
  unfold ref20_numeric_F ref20_numeric_T
  rw [wrap64 (by omega) (by omega)]
  refine Post.run (Post.alt (R := fun r => match r with | .inl _ => num (rcl l) k = false | .inr v => num (rcl l) k = v) (loop_ex (L := fun s : List (Int × Bool) × Int => ref20_numeric_L2 s.1 s.2) (fun s => ∃ m : Nat, m ≤ k ∧ s = (l, (m : Int) - 1) ∧ num (rcl l) k = num (rcl l) m) (fun s => (s.2 + 1).toNat) ?_ ⟨k, Nat.le_refl _, rfl, rfl⟩) (fun _ h => Post.pure (show false = _ from h.symm)) (fun v h => Post.pure (show v = _ from h.symm)))
  rintro s ⟨m, hm, rfl, h⟩
  dsimp only
  unfold ref20_numeric_L2
  cases m with
  | zero => exact Post.brF (by rw [decide_eq_false_iff_not]; omega) (Post.pure h)
  | succ m =>
    rw [show ((m + 1 : Nat) : Int) - 1 = (m : Int) by omega]
    refine Post.brT (by rw [decide_eq_true_eq]; omega) (Post.idx rz m rfl (by omega) ?_)
    rw [show num (rcl l) (m + 1) = (rcl l m == 27 || (num (rcl l) m && (rcl l m == 26 || rcl l m == 25))) from rfl] at h
    have nx : num (rcl l) k = num (rcl l) m → (∃ m' : Nat, m' ≤ k ∧ (l, IntKind.i64.wrap ((m : Int) - 1)) = (l, (m' : Int) - 1) ∧ num (rcl l) k = num (rcl l) m') ∧ (IntKind.i64.wrap ((m : Int) - 1) + 1).toNat < ((m : Int) + 1).toNat := fun h => by
      rw [wrap64 (by omega) (by omega)]
      exact ⟨⟨m, by omega, rfl, h⟩, by omega⟩
    by_cases e : rcl l m = 27
    · exact Post.brT (beq_iff_eq.2 e) (Post.pure (by rw [h, e]; rfl))
    · have e' : (rcl l m == 27) = false := by simpa using e
      rw [e', Bool.false_or] at h
      refine Post.brF e' (Post.idx rz m rfl (by omega) ?_)
      by_cases e6 : rcl l m = 26
      · refine Post.brF (bne_eq_false_iff_eq.2 e6) (Post.pure (nx ?_))
        rw [h, e6]
        simp
      · refine Post.brT (bne_iff_ne.2 e6) (Post.idx rz m rfl (by omega) ?_)
        by_cases e5 : rcl l m = 25
        · refine Post.brF (bne_eq_false_iff_eq.2 e5) (Post.pure (nx ?_))
          rw [h, e5]
          simp
        · refine Post.brT (bne_iff_ne.2 e5) (Post.pure ?_)
          have h6 : (rcl l m == 26) = false := by simpa using e6
          have h5 : (rcl l m == 25) = false := by simpa using e5
          rw [h6, h5, Bool.or_false, Bool.and_false] at h
          exact h
theorem odd_F (l : List (Int × Bool)) (k : Nat) (hl : l.length ≤ 4194304) (hk : k ≤ l.length) : ref20_odd_F l (k : Int) = some (oddb (rcl l) k) := by
  unfold ref20_odd_F ref20_odd_T
  rw [wrap64 (by omega) (by omega)]
  refine Post.run (Post.loop (L := fun s : List (Int × Bool) × Int × Int => ref20_odd_L3 s.1 s.2.1 s.2.2) (R := fun v => ∃ n : Nat, v = (n : Int) ∧ oddb (rcl l) k = (n % 2 == 1)) (fun s => ∃ m n : Nat, m + n = k ∧ s = (l, (n : Int), (m : Int) - 1) ∧ oddb (rcl l) k = (if n % 2 = 1 then !oddb (rcl l) m else oddb (rcl l) m)) (fun s => (s.2.2 + 1).toNat) ⟨k, 0, by omega, rfl, rfl⟩ ?_ ?_)
  · rintro s ⟨m, n, hm, rfl, h⟩
    dsimp only
    unfold ref20_odd_L3
    have fin0 : oddb (rcl l) m = false → ∃ n' : Nat, (n : Int) = (n' : Int) ∧ oddb (rcl l) k = (n' % 2 == 1) := fun h0 => by
      refine ⟨n, rfl, ?_⟩
      rw [h, h0]
      by_cases e : n % 2 = 1
      · rw [if_pos e, e]; rfl
      · rw [if_neg e, show n % 2 = 0 by omega]; rfl
    cases m with
    | zero => exact Post.brF (by rw [decide_eq_false_iff_not]; omega) (Post.pure (fin0 rfl))
    | succ m =>
      rw [show ((m + 1 : Nat) : Int) - 1 = (m : Int) by omega]
      refine Post.brT (by rw [decide_eq_true_eq]; omega) (Post.idx rz m rfl (by omega) ?_)
      by_cases e : rcl l m = 33
      · refine Post.brT (beq_iff_eq.2 e) (Post.pure ?_)
        rw [wrap_succ (by omega), wrap64 (by omega) (by omega)]
        refine ⟨⟨m, n + 1, by omega, rfl, ?_⟩, by dsimp only; omega⟩
        rw [h, show oddb (rcl l) (m + 1) = (rcl l m == 33 && !oddb (rcl l) m) from rfl, e]
        by_cases e2 : n % 2 = 1
        · rw [if_pos e2, if_neg (by omega)]
          simp
        · rw [if_neg e2, if_pos (by omega)]
          simp
      · refine Post.brF (beq_eq_false_iff_ne.2 e) (Post.pure (fin0 ?_))
        have e' : (rcl l m == 33) = false := by simpa using e
        rw [show oddb (rcl l) (m + 1) = (rcl l m == 33 && !oddb (rcl l) m) from rfl, e', Bool.false_and]
  · rintro v ⟨n, rfl, h⟩
    refine Post.pure ?_
    rw [h, Int.tmod_eq_emod_of_nonneg (by omega)]
    rw [Bool.eq_iff_iff]
    simp
    omega

/-! ### both are one -/
theorem table' {a c : Int} (ha : 0 ≤ a ∧ a ≤ 42) (hc : 0 ≤ c ∧ c ≤ 42) (b2 n27 : Bool) (h : early a c a false = 3) : keptB a c b2 n27 = late a c false false false b2 n27 := by
  obtain ⟨i, rfl⟩ : ∃ i : Nat, a = (i : Int) := ⟨a.toNat, by omega⟩
  obtain ⟨j, rfl⟩ : ∃ j : Nat, c = (j : Int) := ⟨c.toNat, by omega⟩
  exact table ⟨i, by omega⟩ ⟨j, by omega⟩ b2 n27 h
theorem early_nine (c s : Int) (j : Bool) : early 9 c s j ≠ 3 := by
  unfold early
  rw [if_neg (by omega), if_neg (show ¬ En 9 by unfold En; omega)]
  by_cases h1 : En c ∨ c = 9 ∨ c = 10
  · rw [if_pos h1]; decide
  rw [if_neg h1]
  by_cases h2 : s = 10
  · rw [if_pos h2]; decide
  rw [if_neg h2]
  by_cases h3 : j = true
  · rw [if_pos h3]; decide
  rw [if_neg h3]
  by_cases h4 : Gl 9 c
  · rw [if_pos h4]; decide
  rw [if_neg h4]
  by_cases h5 : Sp s c
  · rw [if_pos h5]; decide
  rw [if_neg h5, if_pos rfl]
  decide
theorem early_true (a c s : Int) : early a c s true ≠ 3 := by
  unfold early
  by_cases h0 : a = 6 ∧ c = 7
  · rw [if_pos h0]; decide
  rw [if_neg h0]
  by_cases h : En a
  · rw [if_pos h]; decide
  rw [if_neg h]
  by_cases h1 : En c ∨ c = 9 ∨ c = 10
  · rw [if_pos h1]; decide
  rw [if_neg h1]
  by_cases h2 : s = 10
  · rw [if_pos h2]; decide
  rw [if_neg h2, if_pos rfl]
  decide
theorem fol_eq (l : List (Int × Bool)) (n k : Nat) (hl : l.length = n) (hn : n ≤ 4194304) : (decide (IntKind.i64.wrap ((k : Int) + 1) < (l.length : Int)) = false ∧ (fol (rcl l) n k == 27) = false) ∨ (k < n → decide (IntKind.i64.wrap ((k : Int) + 1) < (l.length : Int)) = true ∧ ∃ x, idx l (IntKind.i64.wrap ((k : Int) + 1)) = some x ∧ (x.1 == 27) = (fol (rcl l) n k == 27)) := by
  by_cases hkn : k < n
  · rw [wrap_succ (by omega)]
    by_cases h : k + 1 < n
    · refine .inr fun _ => ⟨by rw [decide_eq_true_eq]; omega, _, idx_getD rz rfl (by omega), ?_⟩
      unfold fol
      rw [if_pos h]
    · refine .inl ⟨by rw [decide_eq_false_iff_not]; omega, ?_⟩
      unfold fol
      rw [if_neg h]
      rfl
  · exact .inr fun h => absurd h hkn
theorem status_eq (l : List (Int × Bool)) (n k : Nat) (hl : l.length = n) (hn : n ≤ 4194304) (hk : k < n) (hcl : ∀ i, 0 ≤ rcl l i ∧ rcl l i ≤ 42) : ref20_Status_F l (k : Int) = some (sts (rcl l) (fun i => (l.getD i rz).2) n k) := by
  cases k with
  | zero =>
    unfold ref20_Status_F ref20_Status_T
    exact Post.run (Post.brT rfl (Post.pure rfl))
  | succ m =>
    have hs : Sees l ((m + 1 : Nat) : Int) (num (rcl l) (m + 1)) (num (rcl l) m) (oddb (rcl l) (m + 1)) (bef (rcl l) (m + 1) == 2) (fol (rcl l) n (m + 1) == 27) := by
      refine ⟨numeric_F l (m + 1) (by omega) (by omega), ?_, odd_F l (m + 1) (by omega) (by omega), ?_, ?_⟩
      · rw [show IntKind.i64.wrap (((m + 1 : Nat) : Int) - 1) = (m : Int) by rw [wrap64 (by omega) (by omega)]; omega]
        exact numeric_F l m (by omega) (by omega)
      · cases m with
        | zero => exact .inl ⟨by decide, rfl⟩
        | succ m =>
          refine .inr ⟨by rw [decide_eq_true_eq]; omega, _, idx_getD rz (k := m) (by rw [wrap64 (by omega) (by omega)]; omega) (by omega), rfl⟩
      · rcases fol_eq l n (m + 1) hl hn with h | h
        · exact .inl h
        · exact .inr (h hk)
    have ha : idx l (IntKind.i64.wrap (((m + 1 : Nat) : Int) - 1)) = some (rcl l m, (l.getD m rz).2) := by
      rw [idx_getD rz (k := m) (by rw [wrap64 (by omega) (by omega)]; omega) (by omega)]
    have hc : idx l ((m + 1 : Nat) : Int) = some (rcl l (m + 1), (l.getD (m + 1) rz).2) := idx_getD rz rfl (by omega)
    rw [status_ref (by rw [decide_eq_false_iff_not]; omega) hs ha hc (overSpaces_F l (m + 1) (by omega) (by omega))]
    congr 1
    rw [show sts (rcl l) (fun i => (l.getD i rz).2) n (m + 1) = stat (pst (rcl l) (fun i => (l.getD i rz).2) (m + 1)) (rcl l (m + 1)) (fol (rcl l) n (m + 1)) from if_neg (Nat.succ_ne_zero m)]
    unfold stat pst
    dsimp only
    rw [show lst (rcl l) (m + 1) = rcl l m from rfl, show joi (fun i => (l.getD i rz).2) (m + 1) = (l.getD m rz).2 from rfl, early_ovr]
    by_cases h3 : early (rcl l m) (rcl l (m + 1)) (ovr (rcl l) (m + 1)) (l.getD m rz).2 = 3
    · have hA := hcl m
      have hC := hcl (m + 1)
      have e1 : early (rcl l m) (rcl l (m + 1)) (rcl l m) false = 3 := by
        have a9 : rcl l m ≠ 9 := fun e9 => early_nine _ _ _ (by rw [e9] at h3; exact h3)
        have e0 : ovr (rcl l) (m + 1) = rcl l m := if_neg a9
        rw [e0] at h3
        cases hj : (l.getD m rz).2 with
        | false => rw [hj] at h3; exact h3
        | true => rw [hj] at h3; exact absurd h3 (early_true _ _ _)
      rw [table' hA hC _ _ e1, late_split]
      rfl
    · unfold fin
      rw [if_neg h3, if_neg h3]
end Go.Proofs.Ytgkoijnjoellgaa
