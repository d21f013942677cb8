/-
  What the boundaries' statuses are: the rules' order, and what the units before a boundary tell.
-/
import Derived.Test.YtgkoijnjoellgaaSh
import Derived.Test.YtgkoijnjoellgaaEvMath
namespace Go.Proofs.Ytgkoijnjoellgaa
set_option linter.all false

/-! ### trees that come to one value -/
theorem ite_some {α : Type} {c : Bool} {x y : α} : (if c = true then some x else some y) = some (if c = true then x else y) := by cases c <;> rfl
theorem ite_pair {α β : Type} {c : Bool} {u : α} {x y : β} : (if c = true then (u, x) else (u, y)) = (u, if c = true then x else y) := by cases c <;> rfl
theorem ite_bool {c x y : Bool} : (if c = true then x else y) = (c && x || !c && y) := by cases c <;> cases x <;> cases y <;> rfl
theorem idx_box {α : Type} (x : α) : idx [x] 0 = some x := rfl
theorem run_box {α β : Type} (x : β) (k : β → Tr α) : (Tr.bnd (idx [x] 0) k).run = (k x).run := rfl
theorem post_box {α β : Type} {x : β} {k : β → Tr α} {Q : α → Prop} (h : Post (k x) Q) : Post (.bnd (idx [x] 0) k) Q := h

@[reducible] def En (c : Int) : Prop := c = 5 ∨ c = 6 ∨ c = 7 ∨ c = 8
@[reducible] def Gl (a c : Int) : Prop := (c = 12 ∧ a ≠ 9 ∧ a ≠ 14 ∧ a ≠ 17) ∨ (c ≠ 12 ∧ (c = 11 ∨ a = 11 ∨ a = 12))
@[reducible] def Sp (s c : Int) : Prop := c = 19 ∨ c = 20 ∨ c = 23 ∨ c = 25 ∨ c = 26 ∨ s = 21 ∨ (c = 21 ∧ s = 22) ∨ (c = 18 ∧ (s = 19 ∨ s = 20)) ∨ (c = 16 ∧ s = 16)
abbrev Past := Int × Int × Int × Bool × Bool × Bool × Bool

theorem ends_F (c : Int) : lbrule_ends_F c = some (decide (En c)) := by
  unfold lbrule_ends_F lbrule_ends_T
  refine Post.run ?_
  repeat' (first | (refine Post.pure ?_) | (refine Post.br (fun hbr => ?_) (fun hbr => ?_) <;> simp only [Bool.or_eq_true, Bool.and_eq_true, beq_iff_eq, bne_iff_ne, decide_eq_true_eq, ne_eq, Bool.not_eq_true', beq_eq_false_iff_ne, bne_eq_false_iff_eq, decide_eq_false_iff_not, Decidable.not_not, Bool.or_eq_false_iff, Bool.and_eq_false_iff, Bool.not_eq_false'] at hbr))
  all_goals (first | (rw [eq_comm, decide_eq_true_eq]; omega) | (rw [Bool.eq_iff_iff, beq_iff_eq, decide_eq_true_eq]; omega))
theorem glued_F (a b s : Int) (r : Bool × Bool × Bool × Bool) (c : Int) : lbrule_past_glued_F (a, b, s, r) c = some ((a, b, s, r), decide (Gl a c)) := by
  unfold lbrule_past_glued_F lbrule_past_glued_T
  refine Post.run (post_box ?_)
  dsimp only
  repeat' (first | (refine Post.pure ?_) | (refine Post.br (fun hbr => ?_) (fun hbr => ?_) <;> simp only [Bool.or_eq_true, Bool.and_eq_true, beq_iff_eq, bne_iff_ne, decide_eq_true_eq, ne_eq, Bool.not_eq_true', beq_eq_false_iff_ne, bne_eq_false_iff_eq, decide_eq_false_iff_not, Decidable.not_not, Bool.or_eq_false_iff, Bool.and_eq_false_iff, Bool.not_eq_false'] at hbr))
  all_goals (rw [Prod.mk.injEq]; refine ⟨rfl, ?_⟩)
  all_goals (first | (rw [eq_comm, decide_eq_true_eq]; omega) | (rw [eq_comm, decide_eq_false_iff_not]; omega) | (rw [Bool.eq_iff_iff]; simp only [Bool.or_eq_true, Bool.and_eq_true, beq_iff_eq, bne_iff_ne, decide_eq_true_eq, ne_eq, Bool.not_eq_true', beq_eq_false_iff_ne, bne_eq_false_iff_eq, decide_eq_false_iff_not, Decidable.not_not, Bool.or_eq_false_iff, Bool.and_eq_false_iff, Bool.not_eq_false']; omega))
theorem spaced_F (a b s : Int) (r : Bool × Bool × Bool × Bool) (c : Int) : lbrule_past_spaced_F (a, b, s, r) c = some ((a, b, s, r), decide (Sp s c)) := by
  unfold lbrule_past_spaced_F lbrule_past_spaced_T
  refine Post.run ?_
  repeat' (first | (refine Post.pure ?_) | (refine post_box ?_; try dsimp only) | (refine Post.br (fun hbr => ?_) (fun hbr => ?_) <;> simp only [Bool.or_eq_true, Bool.and_eq_true, beq_iff_eq, bne_iff_ne, decide_eq_true_eq, ne_eq, Bool.not_eq_true', beq_eq_false_iff_ne, bne_eq_false_iff_eq, decide_eq_false_iff_not, Decidable.not_not, Bool.or_eq_false_iff, Bool.and_eq_false_iff, Bool.not_eq_false'] at hbr))
  all_goals (rw [Prod.mk.injEq]; refine ⟨rfl, ?_⟩)
  all_goals (first | (rw [eq_comm, decide_eq_true_eq]; omega) | (rw [eq_comm, decide_eq_false_iff_not]; omega) | (rw [Bool.eq_iff_iff]; simp only [Bool.or_eq_true, Bool.and_eq_true, beq_iff_eq, bne_iff_ne, decide_eq_true_eq, ne_eq, Bool.not_eq_true', beq_eq_false_iff_ne, bne_eq_false_iff_eq, decide_eq_false_iff_not, Decidable.not_not, Bool.or_eq_false_iff, Bool.and_eq_false_iff, Bool.not_eq_false']; omega))

/-! ### what looks back further -/
def countedB (c : Int) (nu cl od : Bool) : Bool := if c = 27 then nu else if c = 29 ∨ c = 28 then nu || cl else if c = 33 then od else false
theorem counted_F (a b s : Int) (j nu cl od : Bool) (c : Int) : lbrule_past_counted_F (a, b, s, j, nu, cl, od) c = some ((a, b, s, j, nu, cl, od), countedB c nu cl od) := by
  unfold lbrule_past_counted_F lbrule_past_counted_T countedB
  refine Post.run ?_
  repeat' (first | (refine Post.pure ?_) | (refine post_box ?_; try dsimp only) | (refine Post.br (fun hbr => ?_) (fun hbr => ?_) <;> (try simp only [Bool.or_eq_true, Bool.and_eq_true, beq_iff_eq, bne_iff_ne, decide_eq_true_eq, ne_eq, Bool.not_eq_true', beq_eq_false_iff_ne, bne_eq_false_iff_eq, decide_eq_false_iff_not, Decidable.not_not, Bool.or_eq_false_iff, Bool.and_eq_false_iff, Bool.not_eq_false'] at hbr)))
  all_goals (rw [Prod.mk.injEq]; refine ⟨rfl, ?_⟩)
  all_goals (repeat (first | rw [if_pos (by omega)] | rw [if_neg (by omega)]))
  all_goals simp_all
def lettB (c : Int) : Bool := c == 1 || c == 2
def ideoB (c : Int) : Bool := c == 30 || (c == 31 || c == 32)
def syllB (c : Int) : Bool := c == 34 || (c == 35 || (c == 36 || (c == 37 || c == 38)))
theorem letter_F (c : Int) : lbrule_letter_F c = some (lettB c) := by
  unfold lbrule_letter_F lbrule_letter_T lettB
  simp only [Tr.run_br, Tr.run_pure, ite_some]
  congr 1
  cases c == 1 <;> rfl
theorem ideo_F (c : Int) : lbrule_ideograph_F c = some (ideoB c) := by
  unfold lbrule_ideograph_F lbrule_ideograph_T ideoB
  simp only [Tr.run_br, Tr.run_pure, ite_some]
  congr 1
  cases c == 30 <;> cases c == 31 <;> rfl
theorem syll_F (c : Int) : lbrule_syllable_F c = some (syllB c) := by
  unfold lbrule_syllable_F lbrule_syllable_T syllB
  simp only [Tr.run_br, Tr.run_pure, ite_some]
  congr 1
  cases c == 34 <;> cases c == 35 <;> cases c == 36 <;> cases c == 37 <;> rfl
noncomputable def builtB (a c : Int) : Bool := match lbrule_built_F a c with | some b => b | none => false
theorem built_F (a c : Int) : lbrule_built_F a c = some (builtB a c) := by
  have : ∃ b, lbrule_built_F a c = some b ∧ True := by
    unfold lbrule_built_F lbrule_built_T
    show Post _ _
    repeat' (first | exact Post.pure trivial | refine Post.br (fun _ => ?_) (fun _ => ?_))
  obtain ⟨b, h, _⟩ := this
  unfold builtB
  rw [h]
/-- rules 16 to 22, 24 to 27 and 29 -/
noncomputable def keptB (a c : Int) (b2 n27 : Bool) : Bool := match lbrule_past_kept_F (a, if b2 then 2 else 0, 0, false, false, false, false) c (if n27 then 27 else 0) with | some r => r.2 | none => false
theorem kept_any (p : Past) (c n : Int) : ∃ r, lbrule_past_kept_F p c n = some r ∧ r.1 = p := by
  unfold lbrule_past_kept_F lbrule_past_kept_T
  show Post _ _
  repeat' (first | exact Post.pure rfl | refine post_box ?_ | refine Post.bnd (letter_F _) ?_ | refine Post.bnd (ideo_F _) ?_ | refine Post.bnd (syll_F _) ?_ | refine Post.bnd (built_F _ _) ?_ | refine Post.br (fun _ => ?_) (fun _ => ?_))
theorem kept_snd (a b s : Int) (r : Bool × Bool × Bool × Bool) (a' b' s' : Int) (r' : Bool × Bool × Bool × Bool) (c n n' : Int) (h : a = a') (hb : (b == 2) = (b' == 2)) (hn : (n == 27) = (n' == 27)) :
    (lbrule_past_kept_F (a, b, s, r) c n).map Prod.snd = (lbrule_past_kept_F (a', b', s', r') c n').map Prod.snd := by
  subst h
  unfold lbrule_past_kept_F lbrule_past_kept_T
  simp only [run_box, Tr.run_br, Tr.run_pure, Tr.run_bnd', letter_F, ideo_F, syll_F, built_F, ite_some, ite_pair, Option.map_some, hb, hn]
theorem kept_F (a b s : Int) (r : Bool × Bool × Bool × Bool) (c n : Int) : lbrule_past_kept_F (a, b, s, r) c n = some ((a, b, s, r), keptB a c (b == 2) (n == 27)) := by
  obtain ⟨q, h1, h2⟩ := kept_any (a, b, s, r) c n
  have h3 := kept_snd a b s r a (if (b == 2) = true then 2 else 0) 0 (false, false, false, false) c n (if (n == 27) = true then 27 else 0) rfl (by cases h : b == 2 <;> simp) (by cases h : n == 27 <;> simp)
  rw [h1] at h3
  unfold keptB
  cases h4 : lbrule_past_kept_F (a, (if (b == 2) = true then 2 else 0), 0, false, false, false, false) c (if (n == 27) = true then 27 else 0) with
  | none => rw [h4] at h3; cases h3
  | some x =>
    rw [h4] at h3
    simp only [Option.map_some, Option.some.injEq] at h3
    dsimp only
    rw [h1, ← h2, ← h3]

/-! ### the rules in their order -/
def early (a c s : Int) (j : Bool) : Int :=
  if a = 6 ∧ c = 7 then 0 else if En a then 2 else if En c ∨ c = 9 ∨ c = 10 then 0 else if s = 10 then 1 else if j = true then 0 else if Gl a c then 0 else if Sp s c then 0 else
  if a = 9 then 1 else if c = 22 ∨ a = 22 then 0 else if c = 13 ∨ a = 13 then 1 else 3
def fin (e : Int) (l : Bool) : Int := if e = 3 then (if l = true then 0 else 1) else e
noncomputable def stat (p : Past) (c n : Int) : Int := fin (early p.1 c p.2.2.1 p.2.2.2.1) (countedB c p.2.2.2.2.1 p.2.2.2.2.2.1 p.2.2.2.2.2.2 || keptB p.1 c (p.2.1 == 2) (n == 27))
set_option maxHeartbeats 4000000 in
theorem status_F (a b s : Int) (j nu cl od : Bool) (c n : Int) : lbrule_past_status_F (a, b, s, j, nu, cl, od) c n = some ((a, b, s, j, nu, cl, od), stat (a, b, s, j, nu, cl, od) c n) := by
  unfold lbrule_past_status_F lbrule_past_status_T
  have e : ∀ v, stat (a, b, s, j, nu, cl, od) c n = v ↔ fin (early a c s j) (countedB c nu cl od || keptB a c (b == 2) (n == 27)) = v := fun v => Iff.rfl
  generalize hk : keptB a c (b == 2) (n == 27) = k at *
  generalize hq : countedB c nu cl od = q at *
  have leaf : ∀ v, stat (a, b, s, j, nu, cl, od) c n = v → (((a, b, s, j, nu, cl, od), v) : Past × Int) = ((a, b, s, j, nu, cl, od), stat (a, b, s, j, nu, cl, od) c n) := fun v h => by rw [h]
  refine Post.run (post_box ?_)
  dsimp only
  cases j
  all_goals
    repeat' (first | (refine Post.pure (leaf _ ?_)) | (refine post_box ?_; try dsimp only) | refine Post.bnd (ends_F _) ?_ | refine Post.bnd (glued_F _ _ _ _ _) ?_ | refine Post.bnd (spaced_F _ _ _ _ _) ?_ | refine Post.bnd (counted_F _ _ _ _ _ _ _ _) ?_ | refine Post.bnd (kept_F _ _ _ _ _ _) ?_ | (refine Post.br (fun hbr => ?_) (fun hbr => ?_) <;> (try dsimp only at hbr) <;> (try (first | contradiction | simp only [Bool.or_eq_true, Bool.and_eq_true, beq_iff_eq, bne_iff_ne, decide_eq_true_eq, ne_eq, Bool.not_eq_true', beq_eq_false_iff_ne, bne_eq_false_iff_eq, decide_eq_false_iff_not, Decidable.not_not, Bool.or_eq_false_iff, Bool.and_eq_false_iff, Bool.not_eq_false', hk, hq, Bool.false_eq_true, Bool.true_eq_false, reduceCtorEq] at hbr))))
  all_goals (rw [e]; unfold early)
  all_goals (repeat (first | rw [if_pos (by first | omega | rfl)] | rw [if_neg (by first | omega | decide)]))
  all_goals (unfold fin; simp_all)
end Go.Proofs.Ytgkoijnjoellgaa
