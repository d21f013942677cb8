/-
  The document's own answer of the rules that look at letters, numbers and syllables is what the program keeps.
-/
import Derived.Test.YtgkoijnjoellgaaLawLbrB
namespace Go.Proofs.Ytgkoijnjoellgaa
set_option linter.all false

theorem rletter_F (c : Int) : ref20_letter_F c = some (lettB c) := letter_F c
theorem rpicture_F (c : Int) : ref20_picture_F c = some (ideoB c) := ideo_F c
theorem rkorean_F (c : Int) : ref20_korean_F c = some (syllB c) := syll_F c
def monB (c : Int) : Bool := c == 29 || c == 28
theorem rmoney_F (c : Int) : ref20_money_F c = some (monB c) := by
  unfold ref20_money_F ref20_money_T monB
  simp only [Tr.run_br, Tr.run_pure, ite_some]
  congr 1
  cases c == 29 <;> rfl

/-- the rules 16 to 29, of any two classes, whatever stands around -/
def late (a c : Int) (nu nu1 od b2 n27 : Bool) : Bool :=
  c == 14 || c == 17 || c == 18 || c == 24 || a == 15 ||
  ((a == 17 || a == 14) && b2) || (a == 26 && c == 2) ||
  (lettB a && c == 27) || (a == 27 && lettB c) || (a == 29 && ideoB c) || (ideoB a && c == 28) || (monB a && lettB c) || (lettB a && monB c) ||
  (monB a && (c == 27 || ((c == 21 || c == 17) && n27))) || ((a == 21 || a == 17) && c == 27) ||
  (nu && c == 27) || (monB c && (nu || ((a == 19 || a == 20) && nu1))) ||
  (a == 34 && (c == 34 || c == 35 || c == 37 || c == 38)) || ((a == 35 || a == 37) && (c == 35 || c == 36)) || ((a == 36 || a == 38) && c == 36) ||
  (syllB a && c == 28) || (a == 29 && syllB c) || ((lettB a || a == 25) && lettB c) || ((lettB a || a == 27) && c == 21) || (a == 20 && (lettB c || c == 27)) ||
  (c == 33 && od) || (a == 31 && c == 32)

theorem bool_or_if {a b : Bool} : (if a = true then true else b) = (a || b) := by cases a <;> rfl
theorem bool_and_if {a b : Bool} : (if a = true then b else false) = (a && b) := by cases a <;> rfl

theorem bool_nand_if {a b : Bool} : (if a = true then false else b) = (!a && b) := by cases a <;> rfl

theorem bool_if_or {c a b : Bool} : (if c = true then a || b else b) = ((c && a) || b) := by cases c <;> rfl
theorem bool_if_and {c x y : Bool} : (if c = true then x else y && x) = ((c || y) && x) := by cases c <;> rfl

structure Sees (us : List (Int × Bool)) (k : Int) (nu nu1 od b2 n27 : Bool) : Prop where
  nu : ref20_numeric_F us k = some nu
  nu1 : ref20_numeric_F us (IntKind.i64.wrap (k - 1)) = some nu1
  od : ref20_odd_F us k = some od
  b2 : (decide (k ≥ 2) = false ∧ b2 = false) ∨ (decide (k ≥ 2) = true ∧ ∃ x, idx us (IntKind.i64.wrap (k - 2)) = some x ∧ (x.1 == 2) = b2)
  n27 : (decide (IntKind.i64.wrap (k + 1) < (us.length : Int)) = false ∧ n27 = false) ∨ (decide (IntKind.i64.wrap (k + 1) < (us.length : Int)) = true ∧ ∃ x, idx us (IntKind.i64.wrap (k + 1)) = some x ∧ (x.1 == 27) = n27)

set_option maxHeartbeats 4000000 in
theorem stays_F {us : List (Int × Bool)} {k : Int} {nu nu1 od b2 n27 : Bool} (h : Sees us k nu nu1 od b2 n27) (a c : Int) : ref20_stays_F us k a c = some (late a c nu nu1 od b2 n27) := by
  obtain ⟨h1, h2, h3, h4, h5⟩ := h
  unfold ref20_stays_F ref20_stays_T
  rcases h4 with ⟨h4, rfl⟩ | ⟨h4, x, e4, f4⟩ <;> rcases h5 with ⟨h5, rfl⟩ | ⟨h5, y, e5, f5⟩
  all_goals
    simp only [Tr.run_bnd', Tr.run_br, Tr.run_pure, rletter_F, rpicture_F, rkorean_F, rmoney_F, h1, h2, h3, h4, h5, *, ite_some, ite_pair, bool_or_if, bool_and_if, Bool.and_false, Bool.or_false, Bool.false_or, ite_self, bool_nand_if, Bool.false_eq_true, Bool.true_and, if_false, if_true]
  all_goals
    simp only [Option.some.injEq, late, bool_if_or, bool_if_and, Bool.and_true, Bool.and_false, Bool.or_false, Bool.false_or, Bool.or_assoc]

/-- what the program keeps says the same, wherever the elder rules leave it open -/
theorem table : ∀ i j : Fin 43, ∀ b2 n27 : Bool, early (i.val : Int) (j.val : Int) (i.val : Int) false = 3 → keptB (i.val : Int) (j.val : Int) b2 n27 = late (i.val : Int) (j.val : Int) false false false b2 n27 := by decide +kernel

theorem ite_case {c : Bool} {x y z : Int} (h1 : c = true → x = z) (h2 : c = false → y = z) : (if c = true then x else y) = z := by
  cases c
  · exact h2 rfl
  · exact h1 rfl
set_option maxHeartbeats 4000000 in
theorem status_ref {us : List (Int × Bool)} {k : Int} {nu nu1 od b2 n27 j cj : Bool} {a c base : Int} (hk : decide (k ≤ 0) = false) (h : Sees us k nu nu1 od b2 n27) (ha : idx us (IntKind.i64.wrap (k - 1)) = some (a, j)) (hc : idx us k = some (c, cj)) (hb : ref20_overSpaces_F us k = some base) :
    ref20_Status_F us k = some (fin (early a c base j) (late a c nu nu1 od b2 n27)) := by
  have hs := stays_F h a c
  generalize late a c nu nu1 od b2 n27 = L at *
  unfold ref20_Status_F ref20_Status_T
  simp only [hk, Tr.run_bnd', Tr.run_br, Tr.run_pure, ha, hc, hb, hs, ite_some, ite_pair, bool_or_if, bool_and_if, Bool.and_false, Bool.or_false, Bool.false_or, ite_self, bool_nand_if, bool_if_or, bool_if_and, Bool.or_assoc, Bool.and_true, Bool.false_eq_true, Bool.true_and, if_false, if_true]
  have f0 : fin 0 L = 0 := rfl
  have f1 : fin 1 L = 1 := rfl
  have f2 : fin 2 L = 2 := rfl
  have f3 : fin 3 L = if L = true then 0 else 1 := rfl
  refine congrArg some ?_
  cases j
  all_goals
    unfold early
    simp only [Bool.true_or, Bool.false_or, Bool.false_eq_true, if_true, if_false]
    by_cases r1 : a = 6 ∧ c = 7
    · rw [if_pos r1, f0]
      (repeat' (first | rfl | rw [if_pos (by simp only [Bool.or_eq_true, Bool.and_eq_true, beq_iff_eq, bne_iff_ne, decide_eq_true_eq, ne_eq, Bool.not_eq_true', beq_eq_false_iff_ne, bne_eq_false_iff_eq, decide_eq_false_iff_not, Decidable.not_not, Bool.or_eq_false_iff, Bool.and_eq_false_iff, Bool.not_eq_false']; omega)] | rw [if_neg (by simp only [Bool.or_eq_true, Bool.and_eq_true, beq_iff_eq, bne_iff_ne, decide_eq_true_eq, ne_eq, Bool.not_eq_true', beq_eq_false_iff_ne, bne_eq_false_iff_eq, decide_eq_false_iff_not, Decidable.not_not, Bool.or_eq_false_iff, Bool.and_eq_false_iff, Bool.not_eq_false']; omega)] | (refine ite_case (fun hq => ?_) (fun hq => ?_) <;> simp only [Bool.or_eq_true, Bool.and_eq_true, beq_iff_eq, bne_iff_ne, decide_eq_true_eq, ne_eq, Bool.not_eq_true', beq_eq_false_iff_ne, bne_eq_false_iff_eq, decide_eq_false_iff_not, Decidable.not_not, Bool.or_eq_false_iff, Bool.and_eq_false_iff, Bool.not_eq_false'] at hq)))
    rw [if_neg r1]
    by_cases r2 : a = 5 ∨ a = 6 ∨ a = 7 ∨ a = 8
    · rw [if_pos r2, f2]
      (repeat' (first | rfl | rw [if_pos (by simp only [Bool.or_eq_true, Bool.and_eq_true, beq_iff_eq, bne_iff_ne, decide_eq_true_eq, ne_eq, Bool.not_eq_true', beq_eq_false_iff_ne, bne_eq_false_iff_eq, decide_eq_false_iff_not, Decidable.not_not, Bool.or_eq_false_iff, Bool.and_eq_false_iff, Bool.not_eq_false']; omega)] | rw [if_neg (by simp only [Bool.or_eq_true, Bool.and_eq_true, beq_iff_eq, bne_iff_ne, decide_eq_true_eq, ne_eq, Bool.not_eq_true', beq_eq_false_iff_ne, bne_eq_false_iff_eq, decide_eq_false_iff_not, Decidable.not_not, Bool.or_eq_false_iff, Bool.and_eq_false_iff, Bool.not_eq_false']; omega)] | (refine ite_case (fun hq => ?_) (fun hq => ?_) <;> simp only [Bool.or_eq_true, Bool.and_eq_true, beq_iff_eq, bne_iff_ne, decide_eq_true_eq, ne_eq, Bool.not_eq_true', beq_eq_false_iff_ne, bne_eq_false_iff_eq, decide_eq_false_iff_not, Decidable.not_not, Bool.or_eq_false_iff, Bool.and_eq_false_iff, Bool.not_eq_false'] at hq)))
    rw [if_neg r2]
    by_cases r3 : (c = 5 ∨ c = 6 ∨ c = 7 ∨ c = 8) ∨ c = 9 ∨ c = 10
    · rw [if_pos r3, f0]
      (repeat' (first | rfl | rw [if_pos (by simp only [Bool.or_eq_true, Bool.and_eq_true, beq_iff_eq, bne_iff_ne, decide_eq_true_eq, ne_eq, Bool.not_eq_true', beq_eq_false_iff_ne, bne_eq_false_iff_eq, decide_eq_false_iff_not, Decidable.not_not, Bool.or_eq_false_iff, Bool.and_eq_false_iff, Bool.not_eq_false']; omega)] | rw [if_neg (by simp only [Bool.or_eq_true, Bool.and_eq_true, beq_iff_eq, bne_iff_ne, decide_eq_true_eq, ne_eq, Bool.not_eq_true', beq_eq_false_iff_ne, bne_eq_false_iff_eq, decide_eq_false_iff_not, Decidable.not_not, Bool.or_eq_false_iff, Bool.and_eq_false_iff, Bool.not_eq_false']; omega)] | (refine ite_case (fun hq => ?_) (fun hq => ?_) <;> simp only [Bool.or_eq_true, Bool.and_eq_true, beq_iff_eq, bne_iff_ne, decide_eq_true_eq, ne_eq, Bool.not_eq_true', beq_eq_false_iff_ne, bne_eq_false_iff_eq, decide_eq_false_iff_not, Decidable.not_not, Bool.or_eq_false_iff, Bool.and_eq_false_iff, Bool.not_eq_false'] at hq)))
    rw [if_neg r3]
    by_cases r4 : base = 10
    · rw [if_pos r4, f1]
      (repeat' (first | rfl | rw [if_pos (by simp only [Bool.or_eq_true, Bool.and_eq_true, beq_iff_eq, bne_iff_ne, decide_eq_true_eq, ne_eq, Bool.not_eq_true', beq_eq_false_iff_ne, bne_eq_false_iff_eq, decide_eq_false_iff_not, Decidable.not_not, Bool.or_eq_false_iff, Bool.and_eq_false_iff, Bool.not_eq_false']; omega)] | rw [if_neg (by simp only [Bool.or_eq_true, Bool.and_eq_true, beq_iff_eq, bne_iff_ne, decide_eq_true_eq, ne_eq, Bool.not_eq_true', beq_eq_false_iff_ne, bne_eq_false_iff_eq, decide_eq_false_iff_not, Decidable.not_not, Bool.or_eq_false_iff, Bool.and_eq_false_iff, Bool.not_eq_false']; omega)] | (refine ite_case (fun hq => ?_) (fun hq => ?_) <;> simp only [Bool.or_eq_true, Bool.and_eq_true, beq_iff_eq, bne_iff_ne, decide_eq_true_eq, ne_eq, Bool.not_eq_true', beq_eq_false_iff_ne, bne_eq_false_iff_eq, decide_eq_false_iff_not, Decidable.not_not, Bool.or_eq_false_iff, Bool.and_eq_false_iff, Bool.not_eq_false'] at hq)))
    rw [if_neg r4]
    first
    | (rw [f0]; (repeat' (first | rfl | rw [if_pos (by simp only [Bool.or_eq_true, Bool.and_eq_true, beq_iff_eq, bne_iff_ne, decide_eq_true_eq, ne_eq, Bool.not_eq_true', beq_eq_false_iff_ne, bne_eq_false_iff_eq, decide_eq_false_iff_not, Decidable.not_not, Bool.or_eq_false_iff, Bool.and_eq_false_iff, Bool.not_eq_false']; omega)] | rw [if_neg (by simp only [Bool.or_eq_true, Bool.and_eq_true, beq_iff_eq, bne_iff_ne, decide_eq_true_eq, ne_eq, Bool.not_eq_true', beq_eq_false_iff_ne, bne_eq_false_iff_eq, decide_eq_false_iff_not, Decidable.not_not, Bool.or_eq_false_iff, Bool.and_eq_false_iff, Bool.not_eq_false']; omega)] | (refine ite_case (fun hq => ?_) (fun hq => ?_) <;> simp only [Bool.or_eq_true, Bool.and_eq_true, beq_iff_eq, bne_iff_ne, decide_eq_true_eq, ne_eq, Bool.not_eq_true', beq_eq_false_iff_ne, bne_eq_false_iff_eq, decide_eq_false_iff_not, Decidable.not_not, Bool.or_eq_false_iff, Bool.and_eq_false_iff, Bool.not_eq_false'] at hq))); done)
    | (by_cases r5 : (c = 12 ∧ a ≠ 9 ∧ a ≠ 14 ∧ a ≠ 17) ∨ (c ≠ 12 ∧ (c = 11 ∨ a = 11 ∨ a = 12))
       · rw [if_pos r5, f0]
         (repeat' (first | rfl | rw [if_pos (by simp only [Bool.or_eq_true, Bool.and_eq_true, beq_iff_eq, bne_iff_ne, decide_eq_true_eq, ne_eq, Bool.not_eq_true', beq_eq_false_iff_ne, bne_eq_false_iff_eq, decide_eq_false_iff_not, Decidable.not_not, Bool.or_eq_false_iff, Bool.and_eq_false_iff, Bool.not_eq_false']; omega)] | rw [if_neg (by simp only [Bool.or_eq_true, Bool.and_eq_true, beq_iff_eq, bne_iff_ne, decide_eq_true_eq, ne_eq, Bool.not_eq_true', beq_eq_false_iff_ne, bne_eq_false_iff_eq, decide_eq_false_iff_not, Decidable.not_not, Bool.or_eq_false_iff, Bool.and_eq_false_iff, Bool.not_eq_false']; omega)] | (refine ite_case (fun hq => ?_) (fun hq => ?_) <;> simp only [Bool.or_eq_true, Bool.and_eq_true, beq_iff_eq, bne_iff_ne, decide_eq_true_eq, ne_eq, Bool.not_eq_true', beq_eq_false_iff_ne, bne_eq_false_iff_eq, decide_eq_false_iff_not, Decidable.not_not, Bool.or_eq_false_iff, Bool.and_eq_false_iff, Bool.not_eq_false'] at hq)))
       rw [if_neg r5]
       by_cases r6 : c = 19 ∨ c = 20 ∨ c = 23 ∨ c = 25 ∨ c = 26 ∨ base = 21 ∨ (c = 21 ∧ base = 22) ∨ (c = 18 ∧ (base = 19 ∨ base = 20)) ∨ (c = 16 ∧ base = 16)
       · rw [if_pos r6, f0]
         (repeat' (first | rfl | rw [if_pos (by simp only [Bool.or_eq_true, Bool.and_eq_true, beq_iff_eq, bne_iff_ne, decide_eq_true_eq, ne_eq, Bool.not_eq_true', beq_eq_false_iff_ne, bne_eq_false_iff_eq, decide_eq_false_iff_not, Decidable.not_not, Bool.or_eq_false_iff, Bool.and_eq_false_iff, Bool.not_eq_false']; omega)] | rw [if_neg (by simp only [Bool.or_eq_true, Bool.and_eq_true, beq_iff_eq, bne_iff_ne, decide_eq_true_eq, ne_eq, Bool.not_eq_true', beq_eq_false_iff_ne, bne_eq_false_iff_eq, decide_eq_false_iff_not, Decidable.not_not, Bool.or_eq_false_iff, Bool.and_eq_false_iff, Bool.not_eq_false']; omega)] | (refine ite_case (fun hq => ?_) (fun hq => ?_) <;> simp only [Bool.or_eq_true, Bool.and_eq_true, beq_iff_eq, bne_iff_ne, decide_eq_true_eq, ne_eq, Bool.not_eq_true', beq_eq_false_iff_ne, bne_eq_false_iff_eq, decide_eq_false_iff_not, Decidable.not_not, Bool.or_eq_false_iff, Bool.and_eq_false_iff, Bool.not_eq_false'] at hq)))
       rw [if_neg r6]
       by_cases r7 : a = 9
       · rw [if_pos r7, f1]
         (repeat' (first | rfl | rw [if_pos (by simp only [Bool.or_eq_true, Bool.and_eq_true, beq_iff_eq, bne_iff_ne, decide_eq_true_eq, ne_eq, Bool.not_eq_true', beq_eq_false_iff_ne, bne_eq_false_iff_eq, decide_eq_false_iff_not, Decidable.not_not, Bool.or_eq_false_iff, Bool.and_eq_false_iff, Bool.not_eq_false']; omega)] | rw [if_neg (by simp only [Bool.or_eq_true, Bool.and_eq_true, beq_iff_eq, bne_iff_ne, decide_eq_true_eq, ne_eq, Bool.not_eq_true', beq_eq_false_iff_ne, bne_eq_false_iff_eq, decide_eq_false_iff_not, Decidable.not_not, Bool.or_eq_false_iff, Bool.and_eq_false_iff, Bool.not_eq_false']; omega)] | (refine ite_case (fun hq => ?_) (fun hq => ?_) <;> simp only [Bool.or_eq_true, Bool.and_eq_true, beq_iff_eq, bne_iff_ne, decide_eq_true_eq, ne_eq, Bool.not_eq_true', beq_eq_false_iff_ne, bne_eq_false_iff_eq, decide_eq_false_iff_not, Decidable.not_not, Bool.or_eq_false_iff, Bool.and_eq_false_iff, Bool.not_eq_false'] at hq)))
       rw [if_neg r7]
       by_cases r8 : c = 22 ∨ a = 22
       · rw [if_pos r8, f0]
         (repeat' (first | rfl | rw [if_pos (by simp only [Bool.or_eq_true, Bool.and_eq_true, beq_iff_eq, bne_iff_ne, decide_eq_true_eq, ne_eq, Bool.not_eq_true', beq_eq_false_iff_ne, bne_eq_false_iff_eq, decide_eq_false_iff_not, Decidable.not_not, Bool.or_eq_false_iff, Bool.and_eq_false_iff, Bool.not_eq_false']; omega)] | rw [if_neg (by simp only [Bool.or_eq_true, Bool.and_eq_true, beq_iff_eq, bne_iff_ne, decide_eq_true_eq, ne_eq, Bool.not_eq_true', beq_eq_false_iff_ne, bne_eq_false_iff_eq, decide_eq_false_iff_not, Decidable.not_not, Bool.or_eq_false_iff, Bool.and_eq_false_iff, Bool.not_eq_false']; omega)] | (refine ite_case (fun hq => ?_) (fun hq => ?_) <;> simp only [Bool.or_eq_true, Bool.and_eq_true, beq_iff_eq, bne_iff_ne, decide_eq_true_eq, ne_eq, Bool.not_eq_true', beq_eq_false_iff_ne, bne_eq_false_iff_eq, decide_eq_false_iff_not, Decidable.not_not, Bool.or_eq_false_iff, Bool.and_eq_false_iff, Bool.not_eq_false'] at hq)))
       rw [if_neg r8]
       by_cases r9 : c = 13 ∨ a = 13
       · rw [if_pos r9, f1]
         (repeat' (first | rfl | rw [if_pos (by simp only [Bool.or_eq_true, Bool.and_eq_true, beq_iff_eq, bne_iff_ne, decide_eq_true_eq, ne_eq, Bool.not_eq_true', beq_eq_false_iff_ne, bne_eq_false_iff_eq, decide_eq_false_iff_not, Decidable.not_not, Bool.or_eq_false_iff, Bool.and_eq_false_iff, Bool.not_eq_false']; omega)] | rw [if_neg (by simp only [Bool.or_eq_true, Bool.and_eq_true, beq_iff_eq, bne_iff_ne, decide_eq_true_eq, ne_eq, Bool.not_eq_true', beq_eq_false_iff_ne, bne_eq_false_iff_eq, decide_eq_false_iff_not, Decidable.not_not, Bool.or_eq_false_iff, Bool.and_eq_false_iff, Bool.not_eq_false']; omega)] | (refine ite_case (fun hq => ?_) (fun hq => ?_) <;> simp only [Bool.or_eq_true, Bool.and_eq_true, beq_iff_eq, bne_iff_ne, decide_eq_true_eq, ne_eq, Bool.not_eq_true', beq_eq_false_iff_ne, bne_eq_false_iff_eq, decide_eq_false_iff_not, Decidable.not_not, Bool.or_eq_false_iff, Bool.and_eq_false_iff, Bool.not_eq_false'] at hq)))
       rw [if_neg r9, f3]
       (repeat' (first | rfl | rw [if_pos (by simp only [Bool.or_eq_true, Bool.and_eq_true, beq_iff_eq, bne_iff_ne, decide_eq_true_eq, ne_eq, Bool.not_eq_true', beq_eq_false_iff_ne, bne_eq_false_iff_eq, decide_eq_false_iff_not, Decidable.not_not, Bool.or_eq_false_iff, Bool.and_eq_false_iff, Bool.not_eq_false']; omega)] | rw [if_neg (by simp only [Bool.or_eq_true, Bool.and_eq_true, beq_iff_eq, bne_iff_ne, decide_eq_true_eq, ne_eq, Bool.not_eq_true', beq_eq_false_iff_ne, bne_eq_false_iff_eq, decide_eq_false_iff_not, Decidable.not_not, Bool.or_eq_false_iff, Bool.and_eq_false_iff, Bool.not_eq_false']; omega)] | (refine ite_case (fun hq => ?_) (fun hq => ?_) <;> simp only [Bool.or_eq_true, Bool.and_eq_true, beq_iff_eq, bne_iff_ne, decide_eq_true_eq, ne_eq, Bool.not_eq_true', beq_eq_false_iff_ne, bne_eq_false_iff_eq, decide_eq_false_iff_not, Decidable.not_not, Bool.or_eq_false_iff, Bool.and_eq_false_iff, Bool.not_eq_false'] at hq))))
end Go.Proofs.Ytgkoijnjoellgaa
