/-
  Which bracket a rune is.
-/
import Derived.Test.YtaahkcepdgmagaaDoorSh
import Derived.Test.YtaahkcepdgmagaaDoorEvMath
namespace Go.Proofs.YtaahkcepdgmagaaDoor
set_option linter.all false

theorem post_box {α β : Type} {x : β} {k : β → Tr α} {Q : α → Prop} (h : Post (k x) Q) : Post (.bnd (idx [x] 0) k) Q := h
theorem glen : gtab.length = 35 := rfl
@[reducible] def pz : Int × Int := (0, 0)
theorem drop_cons {l : List (Int × Int)} {k : Nat} (h : k < l.length) : l.drop k = l.getD k pz :: l.drop (k + 1) := by
  rw [List.drop_eq_getElem_cons h]
  simp [List.getD, h]

/-! ### what a table tells -/
def of1 : List (Int × Int) → Int → Option Int
  | [], _ => none
  | p :: r, x => if p.1 = x then some p.2 else if p.2 = x then some p.1 else of1 r x
def isBr (a : Int) : Bool := !(a == 60 || a == 171 || a == 8249 || a == 8712 || a == 8713 || a == 8804 || a == 8806 || a == 8810 || a == 8834 || a == 8838 || a == 65308)
def kn (a : Int) : Int := if a = 9001 then 12296 else a
def br1 : List (Int × Int) → Int → Option (Int × Int)
  | [], _ => none
  | p :: r, x => if p.1 ≠ x ∧ p.2 ≠ x then br1 r x else if isBr p.1 = false then br1 r x else if p.1 = x then some (1, kn p.1) else some (2, kn p.1)
def rb1 : List (Int × Int) → Int → Option (Int × Int)
  | [], _ => none
  | p :: r, x => if p.1 ≠ x ∧ p.2 ≠ x then rb1 r x else if isBr p.1 = false then some (0, 0) else if p.1 = x then some (1, kn p.1) else some (2, kn p.1)
def ofV (x : Int) : Int × Bool := match of1 gtab x with | some y => (y, true) | none => (x, false)
def miV (x : Int) : Int := match of1 gtab x with | some y => y | none => -1
def brV (x : Int) : Int × Int := match br1 gtab x with | some y => y | none => (0, 0)
def rbV (x : Int) : Int × Int := match rb1 gtab x with | some y => y | none => (0, 0)
def Off (l : List (Int × Int)) (x : Int) : Prop := ∀ p ∈ l, p.1 ≠ x ∧ p.2 ≠ x
theorem off_none {x : Int} : ∀ {l : List (Int × Int)}, Off l x → of1 l x = none ∧ br1 l x = none ∧ rb1 l x = none
  | [], _ => ⟨rfl, rfl, rfl⟩
  | p :: r, h => by
    obtain ⟨h1, h2⟩ := h p (by simp)
    obtain ⟨k1, k2, k3⟩ := off_none (l := r) (x := x) fun q hq => h q (by simp [hq])
    unfold of1 br1 rb1
    rw [if_neg h1, if_neg h2, if_pos ⟨h1, h2⟩, if_pos ⟨h1, h2⟩]
    exact ⟨k1, k2, k3⟩
theorem on_or_off (x : Int) : Off gtab x ∨ ∃ p ∈ gtab, p.1 = x ∨ p.2 = x := by
  by_cases h : ∃ p ∈ gtab, p.1 = x ∨ p.2 = x
  · exact .inr h
  · refine .inl fun p hp => ⟨fun e => h ⟨p, hp, .inl e⟩, fun e => h ⟨p, hp, .inr e⟩⟩
theorem ofV_off {x : Int} (h : Off gtab x) : ofV x = (x, false) := by unfold ofV; rw [(off_none h).1]
theorem miV_off {x : Int} (h : Off gtab x) : miV x = -1 := by unfold miV; rw [(off_none h).1]
theorem brV_off {x : Int} (h : Off gtab x) : brV x = (0, 0) := by unfold brV; rw [(off_none h).2.1]
theorem rbV_off {x : Int} (h : Off gtab x) : rbV x = (0, 0) := by unfold rbV; rw [(off_none h).2.2]

/-! ### the program's -/
theorem bracket_F (p : Int × Int) : mirror_bracket_F p = some (isBr p.1) := by
  unfold mirror_bracket_F mirror_bracket_T isBr
  refine Post.run ?_
  repeat' (first | exact Post.pure (by simp_all) | (refine Post.br (fun hbr => ?_) (fun hbr => ?_)))
theorem known_F (a : Int) : mirror_known_F a = some (kn a) := by
  unfold mirror_known_F mirror_known_T kn
  by_cases h : a = 9001
  · rw [if_pos h]
    exact Post.run (Post.brT (beq_iff_eq.2 h) (Post.pure rfl))
  · rw [if_neg h]
    exact Post.run (Post.brF (beq_eq_false_iff_ne.2 h) (Post.pure rfl))
theorem brack_F (x : Int) : mirror_Bracket_F x = some (brV x) := by
  unfold mirror_Bracket_F mirror_Bracket_T
  refine Post.run (Post.alt (R := fun r => match r with | .inl _ => br1 gtab x = none | .inr r => br1 gtab x = some r) (loop_ex (L := fun s : Int × List (Int × Int) × Int => mirror_Bracket_L2 s.1 s.2.1 s.2.2) (fun s => ∃ k : Nat, k ≤ 35 ∧ s = (x, gtab, (k : Int)) ∧ br1 gtab x = br1 (gtab.drop k) x) (fun s => 35 - s.2.2.toNat) ?_ ⟨0, by omega, rfl, rfl⟩) ?_ ?_)
  · rintro s ⟨k, hk, rfl, h⟩
    dsimp only
    unfold mirror_Bracket_L2
    by_cases e : k < 35
    · have hg : k < gtab.length := by rw [glen]; exact e
      rw [drop_cons hg] at h
      refine Post.brT (by rw [decide_eq_true_eq]; omega) (Post.idx pz k rfl hg (post_box ?_))
      generalize gtab.getD k pz = p at *
      unfold br1 at h
      by_cases h1 : p.1 = x
      · rw [if_neg (fun g => g.1 h1)] at h
        refine Post.brF (by simpa using h1) (post_box (Post.bnd (bracket_F p) ?_))
        cases hb : isBr p.1 with
        | false =>
          rw [if_pos hb] at h
          exact Post.brT rfl (Post.pure (by rw [wrap_succ (by omega)]; exact ⟨⟨k + 1, e, rfl, h⟩, by dsimp only; omega⟩))
        | true =>
          rw [if_neg (by rw [hb]; simp), if_pos h1] at h
          exact Post.brF rfl (post_box (Post.brT (beq_iff_eq.2 h1) (post_box (Post.bnd (known_F _) (Post.pure h)))))
      · refine Post.brT (by simpa using h1) (post_box ?_)
        by_cases h2 : p.2 = x
        · rw [if_neg (fun g => g.2 h2)] at h
          refine Post.brF (by simpa using h2) (post_box (Post.bnd (bracket_F p) ?_))
          cases hb : isBr p.1 with
          | false =>
            rw [if_pos hb] at h
            exact Post.brT rfl (Post.pure (by rw [wrap_succ (by omega)]; exact ⟨⟨k + 1, e, rfl, h⟩, by dsimp only; omega⟩))
          | true =>
            rw [if_neg (by rw [hb]; simp), if_neg h1] at h
            exact Post.brF rfl (post_box (Post.brF (beq_eq_false_iff_ne.2 h1) (post_box (Post.bnd (known_F _) (Post.pure h)))))
        · rw [if_pos ⟨h1, h2⟩] at h
          exact Post.brT (by simpa using h2) (Post.pure (by rw [wrap_succ (by omega)]; exact ⟨⟨k + 1, e, rfl, h⟩, by dsimp only; omega⟩))
    · refine Post.brF (by rw [decide_eq_false_iff_not]; omega) (Post.pure ?_)
      show br1 gtab x = none
      rw [h, List.drop_of_length_le (by rw [glen]; omega)]
      rfl
  · intro b h
    have h : br1 gtab x = none := h
    exact Post.pure (by unfold brV; rw [h])
  · intro r h
    have h : br1 gtab x = some r := h
    exact Post.pure (by unfold brV; rw [h])
end Go.Proofs.YtaahkcepdgmagaaDoor
