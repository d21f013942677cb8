/-
  The laws of mirrors and brackets return true.
-/
import Derived.Test.YtgeipjpnjjkphaaDoorSh
import Derived.Test.YtgeipjpnjjkphaaDoorEvMath
namespace Go.Proofs.YtgeipjpnjjkphaaDoor
set_option linter.all false

theorem post_box {α β : Type} {x : β} {k : β → Tr α} {Q : α → Prop} (h : Post (k x) Q) : Post (.bnd (idx [x] 0) k) Q := h
theorem glen : gtab.length = 35 := rfl
@[reducible] def pz : Int × Int := (0, 0)
theorem drop_cons {l : List (Int × Int)} {k : Nat} (h : k < l.length) : l.drop k = l.getD k pz :: l.drop (k + 1) := by
  rw [List.drop_eq_getElem_cons h]
  simp [List.getD, h]

/-! ### what a table tells -/
def of1 : List (Int × Int) → Int → Option Int
  | [], _ => none
  | p :: r, x => if p.1 = x then some p.2 else if p.2 = x then some p.1 else of1 r x
def isBr (a : Int) : Bool := !(a == 60 || a == 171 || a == 8249 || a == 8712 || a == 8713 || a == 8804 || a == 8806 || a == 8810 || a == 8834 || a == 8838 || a == 65308)
def kn (a : Int) : Int := if a = 9001 then 12296 else a
def br1 : List (Int × Int) → Int → Option (Int × Int)
  | [], _ => none
  | p :: r, x => if p.1 ≠ x ∧ p.2 ≠ x then br1 r x else if isBr p.1 = false then br1 r x else if p.1 = x then some (1, kn p.1) else some (2, kn p.1)
def rb1 : List (Int × Int) → Int → Option (Int × Int)
  | [], _ => none
  | p :: r, x => if p.1 ≠ x ∧ p.2 ≠ x then rb1 r x else if isBr p.1 = false then some (0, 0) else if p.1 = x then some (1, kn p.1) else some (2, kn p.1)
def ofV (x : Int) : Int × Bool := match of1 gtab x with | some y => (y, true) | none => (x, false)
def miV (x : Int) : Int := match of1 gtab x with | some y => y | none => -1
def brV (x : Int) : Int × Int := match br1 gtab x with | some y => y | none => (0, 0)
def rbV (x : Int) : Int × Int := match rb1 gtab x with | some y => y | none => (0, 0)
def Off (l : List (Int × Int)) (x : Int) : Prop := ∀ p ∈ l, p.1 ≠ x ∧ p.2 ≠ x
theorem off_none {x : Int} : ∀ {l : List (Int × Int)}, Off l x → of1 l x = none ∧ br1 l x = none ∧ rb1 l x = none
  | [], _ => ⟨rfl, rfl, rfl⟩
  | p :: r, h => by
    obtain ⟨h1, h2⟩ := h p (by simp)
    obtain ⟨k1, k2, k3⟩ := off_none (l := r) (x := x) fun q hq => h q (by simp [hq])
    unfold of1 br1 rb1
    rw [if_neg h1, if_neg h2, if_pos ⟨h1, h2⟩, if_pos ⟨h1, h2⟩]
    exact ⟨k1, k2, k3⟩
theorem on_or_off (x : Int) : Off gtab x ∨ ∃ p ∈ gtab, p.1 = x ∨ p.2 = x := by
  by_cases h : ∃ p ∈ gtab, p.1 = x ∨ p.2 = x
  · exact .inr h
  · refine .inl fun p hp => ⟨fun e => h ⟨p, hp, .inl e⟩, fun e => h ⟨p, hp, .inr e⟩⟩
theorem ofV_off {x : Int} (h : Off gtab x) : ofV x = (x, false) := by unfold ofV; rw [(off_none h).1]
theorem miV_off {x : Int} (h : Off gtab x) : miV x = -1 := by unfold miV; rw [(off_none h).1]
theorem brV_off {x : Int} (h : Off gtab x) : brV x = (0, 0) := by unfold brV; rw [(off_none h).2.1]
theorem rbV_off {x : Int} (h : Off gtab x) : rbV x = (0, 0) := by unfold rbV; rw [(off_none h).2.2]

/-! ### the program's -/
theorem of_F (x : Int) : mirror_Of_F x = some (ofV x) := by
  unfold mirror_Of_F mirror_Of_T
  refine Post.run (Post.alt (R := fun r => match r with | .inl r => r = x ∧ of1 gtab x = none | .inr r => r.2 = true ∧ of1 gtab x = some r.1) (loop_ex (L := fun s : Int × List (Int × Int) × Int => mirror_Of_L2 s.1 s.2.1 s.2.2) (fun s => ∃ k : Nat, k ≤ 35 ∧ s = (x, gtab, (k : Int)) ∧ of1 gtab x = of1 (gtab.drop k) x) (fun s => 35 - s.2.2.toNat) ?_ ⟨0, by omega, rfl, rfl⟩) ?_ ?_)
  · rintro s ⟨k, hk, rfl, h⟩
    dsimp only
    unfold mirror_Of_L2
    by_cases e : k < 35
    · have hg : k < gtab.length := by rw [glen]; exact e
      rw [drop_cons hg] at h
      refine Post.brT (by rw [decide_eq_true_eq]; omega) (Post.idx pz k rfl hg (post_box ?_))
      generalize gtab.getD k pz = p at *
      unfold of1 at h
      by_cases h1 : p.1 = x
      · rw [if_pos h1] at h
        exact Post.brT (beq_iff_eq.2 h1) (post_box (Post.pure ⟨rfl, h⟩))
      · rw [if_neg h1] at h
        refine Post.brF (beq_eq_false_iff_ne.2 h1) (post_box ?_)
        by_cases h2 : p.2 = x
        · rw [if_pos h2] at h
          exact Post.brT (beq_iff_eq.2 h2) (post_box (Post.pure ⟨rfl, h⟩))
        · rw [if_neg h2] at h
          refine Post.brF (beq_eq_false_iff_ne.2 h2) (Post.pure ?_)
          rw [wrap_succ (by omega)]
          exact ⟨⟨k + 1, e, rfl, h⟩, by dsimp only; omega⟩
    · refine Post.brF (by rw [decide_eq_false_iff_not]; omega) (Post.pure ⟨rfl, ?_⟩)
      rw [h, List.drop_of_length_le (by rw [glen]; omega)]
      rfl
  · rintro b ⟨rfl, h⟩
    exact Post.pure (by unfold ofV; rw [h])
  · rintro ⟨y, b⟩ ⟨h1, h⟩
    have h1 : b = true := h1
    have h : of1 gtab x = some y := h
    subst h1
    exact Post.pure (by unfold ofV; rw [h])
theorem bracket_F (p : Int × Int) : mirror_bracket_F p = some (isBr p.1) := by
  unfold mirror_bracket_F mirror_bracket_T isBr
  refine Post.run ?_
  repeat' (first | exact Post.pure (by simp_all) | (refine Post.br (fun hbr => ?_) (fun hbr => ?_)))
theorem known_F (a : Int) : mirror_known_F a = some (kn a) := by
  unfold mirror_known_F mirror_known_T kn
  by_cases h : a = 9001
  · rw [if_pos h]
    exact Post.run (Post.brT (beq_iff_eq.2 h) (Post.pure rfl))
  · rw [if_neg h]
    exact Post.run (Post.brF (beq_eq_false_iff_ne.2 h) (Post.pure rfl))
theorem brack_F (x : Int) : mirror_Bracket_F x = some (brV x) := by
  unfold mirror_Bracket_F mirror_Bracket_T
  refine Post.run (Post.alt (R := fun r => match r with | .inl _ => br1 gtab x = none | .inr r => br1 gtab x = some r) (loop_ex (L := fun s : Int × List (Int × Int) × Int => mirror_Bracket_L2 s.1 s.2.1 s.2.2) (fun s => ∃ k : Nat, k ≤ 35 ∧ s = (x, gtab, (k : Int)) ∧ br1 gtab x = br1 (gtab.drop k) x) (fun s => 35 - s.2.2.toNat) ?_ ⟨0, by omega, rfl, rfl⟩) ?_ ?_)
  · rintro s ⟨k, hk, rfl, h⟩
    dsimp only
    unfold mirror_Bracket_L2
    by_cases e : k < 35
    · have hg : k < gtab.length := by rw [glen]; exact e
      rw [drop_cons hg] at h
      refine Post.brT (by rw [decide_eq_true_eq]; omega) (Post.idx pz k rfl hg (post_box ?_))
      generalize gtab.getD k pz = p at *
      unfold br1 at h
      by_cases h1 : p.1 = x
      · rw [if_neg (fun g => g.1 h1)] at h
        refine Post.brF (by simpa using h1) (post_box (Post.bnd (bracket_F p) ?_))
        cases hb : isBr p.1 with
        | false =>
          rw [if_pos hb] at h
          exact Post.brT rfl (Post.pure (by rw [wrap_succ (by omega)]; exact ⟨⟨k + 1, e, rfl, h⟩, by dsimp only; omega⟩))
        | true =>
          rw [if_neg (by rw [hb]; simp), if_pos h1] at h
          exact Post.brF rfl (post_box (Post.brT (beq_iff_eq.2 h1) (post_box (Post.bnd (known_F _) (Post.pure h)))))
      · refine Post.brT (by simpa using h1) (post_box ?_)
        by_cases h2 : p.2 = x
        · rw [if_neg (fun g => g.2 h2)] at h
          refine Post.brF (by simpa using h2) (post_box (Post.bnd (bracket_F p) ?_))
          cases hb : isBr p.1 with
          | false =>
            rw [if_pos hb] at h
            exact Post.brT rfl (Post.pure (by rw [wrap_succ (by omega)]; exact ⟨⟨k + 1, e, rfl, h⟩, by dsimp only; omega⟩))
          | true =>
            rw [if_neg (by rw [hb]; simp), if_neg h1] at h
            exact Post.brF rfl (post_box (Post.brF (beq_eq_false_iff_ne.2 h1) (post_box (Post.bnd (known_F _) (Post.pure h)))))
        · rw [if_pos ⟨h1, h2⟩] at h
          exact Post.brT (by simpa using h2) (Post.pure (by rw [wrap_succ (by omega)]; exact ⟨⟨k + 1, e, rfl, h⟩, by dsimp only; omega⟩))
    · refine Post.brF (by rw [decide_eq_false_iff_not]; omega) (Post.pure ?_)
      show br1 gtab x = none
      rw [h, List.drop_of_length_le (by rw [glen]; omega)]
      rfl
  · intro b h
    have h : br1 gtab x = none := h
    exact Post.pure (by unfold brV; rw [h])
  · intro r h
    have h : br1 gtab x = some r := h
    exact Post.pure (by unfold brV; rw [h])

theorem pairs_F : mirror_Pairs_F = some gtab := by
  unfold mirror_Pairs_F mirror_Pairs_T
  refine Post.run (Post.brT (by decide) (Post.bnd (b := []) rfl (Post.bnd (count (L := fun s : List (Int × Int) × List (Int × Int) × Int => mirror_Pairs_L3 s.1 s.2.1 s.2.2) 35 (fun k => (gtab.take k, gtab, (k : Int))) (r := gtab) rfl (fun k hk => ?_) ?_) (Post.pure rfl))))
  · dsimp only
    unfold mirror_Pairs_L3
    have hg : k < gtab.length := by rw [glen]; exact hk
    refine Post.brT (by rw [decide_eq_true_eq]; omega) (Post.idx pz k rfl hg (post_box (Post.bnd (app_eq (by simp [glen]; omega)) (Post.pure ?_))))
    rw [wrap_succ (by omega), List.take_add_one]
    simp [List.getD, hg]
  · dsimp only
    unfold mirror_Pairs_L3
    exact Post.brF (by simp) (Post.pure (by rw [List.take_of_length_le (by rw [glen]; omega)]))

/-! ### the document's answer -/
@[reducible] def two (p : Int × Int) : List Int := [p.1, p.2]
theorem mirrors_F : ref04_Mirrors_F = some (gtab.map two) := by kernel_rfl
theorem rlen : (gtab.map two).length = 35 := rfl
theorem map_at {k : Nat} (hk : k < gtab.length) : (gtab.map two).getD k [] = two (gtab.getD k pz) := by simp [List.getD, hk]
theorem two0 (p : Int × Int) : idx (two p) 0 = some p.1 := rfl
theorem two1 (p : Int × Int) : idx (two p) 1 = some p.2 := rfl
theorem rmirror_F (x : Int) : ref04_Mirror_F x = some (miV x) := by
  unfold ref04_Mirror_F ref04_Mirror_T
  refine Post.run (Post.bnd mirrors_F (Post.alt (R := fun r => match r with | .inl _ => of1 gtab x = none | .inr r => of1 gtab x = some r) (loop_ex (L := fun s : Int × List (List Int) × Int => ref04_Mirror_L3 s.1 s.2.1 s.2.2) (fun s => ∃ k : Nat, k ≤ 35 ∧ s = (x, gtab.map two, (k : Int)) ∧ of1 gtab x = of1 (gtab.drop k) x) (fun s => 35 - s.2.2.toNat) ?_ ⟨0, by omega, rfl, rfl⟩) ?_ ?_))
  · rintro s ⟨k, hk, rfl, h⟩
    dsimp only
    unfold ref04_Mirror_L3
    by_cases e : k < 35
    · have hg : k < gtab.length := by rw [glen]; exact e
      rw [drop_cons hg] at h
      have hi := idx_getD (xs := gtab.map two) [] (i := (k : Int)) rfl (by rw [rlen]; exact e)
      rw [map_at hg] at hi
      generalize gtab.getD k pz = p at *
      unfold of1 at h
      refine Post.brT (by rw [decide_eq_true_eq, rlen]; omega) (Post.bnd hi (Post.bnd (two0 p) ?_))
      by_cases h1 : p.1 = x
      · rw [if_pos h1] at h
        exact Post.brT (beq_iff_eq.2 h1) (Post.bnd hi (Post.bnd (two1 p) (Post.pure h)))
      · rw [if_neg h1] at h
        refine Post.brF (beq_eq_false_iff_ne.2 h1) (Post.bnd hi (Post.bnd (two1 p) ?_))
        by_cases h2 : p.2 = x
        · rw [if_pos h2] at h
          exact Post.brT (beq_iff_eq.2 h2) (Post.bnd hi (Post.bnd (two0 p) (Post.pure h)))
        · rw [if_neg h2] at h
          refine Post.brF (beq_eq_false_iff_ne.2 h2) (Post.pure ?_)
          rw [wrap_succ (by omega)]
          exact ⟨⟨k + 1, e, rfl, h⟩, by dsimp only; omega⟩
    · refine Post.brF (by rw [decide_eq_false_iff_not, rlen]; omega) (Post.pure ?_)
      show of1 gtab x = none
      rw [h, List.drop_of_length_le (by rw [glen]; omega)]
      rfl
  · intro b h
    have h : of1 gtab x = none := h
    exact Post.pure (by unfold miV; rw [h])
  · intro y h
    have h : of1 gtab x = some y := h
    exact Post.pure (by unfold miV; rw [h])
@[reducible] def plainL : List Int := [60, 171, 8249, 8712, 8713, 8804, 8806, 8810, 8834, 8838, 65308]
theorem plain_F : ref04_Plain_F = some plainL := rfl
theorem plain_mem (a : Int) : isBr a = false ↔ a ∈ plainL := by
  unfold isBr plainL
  simp
  omega
theorem rplain_F {x : Int} {k : Nat} (hk : k < 35) : ∃ r, loopW (fun s : Int × List (List Int) × Int × List Int × Int => (ref04_Bracket_L8 s.1 s.2.1 s.2.2.1 s.2.2.2.1 s.2.2.2.2).run) (x, gtab.map two, (k : Int), plainL, 0) = some r ∧
    (match r with | .inl r => r = (x, gtab.map two, (k : Int)) ∧ isBr (gtab.getD k pz).1 = true | .inr r => r = (0, 0) ∧ isBr (gtab.getD k pz).1 = false) := by
  have hg : k < gtab.length := by rw [glen]; exact hk
  have hi := idx_getD (xs := gtab.map two) [] (i := (k : Int)) rfl (by rw [rlen]; exact hk)
  rw [map_at hg] at hi
  refine loop_ex (L := fun s : Int × List (List Int) × Int × List Int × Int => ref04_Bracket_L8 s.1 s.2.1 s.2.2.1 s.2.2.2.1 s.2.2.2.2) (fun s => ∃ j : Nat, j ≤ 11 ∧ s = (x, gtab.map two, (k : Int), plainL, (j : Int)) ∧ ∀ i, i < j → plainL.getD i 0 ≠ (gtab.getD k pz).1) (fun s => 11 - s.2.2.2.2.toNat) ?_ ⟨0, by omega, rfl, fun i h => by omega⟩
  rintro s ⟨j, hj, rfl, h⟩
  dsimp only
  unfold ref04_Bracket_L8
  generalize gtab.getD k pz = p at *
  have hl : plainL.length = 11 := rfl
  by_cases e : j < 11
  · refine Post.brT (by rw [decide_eq_true_eq, hl]; omega) (Post.idx 0 j rfl (by rw [hl]; exact e) (Post.bnd hi (Post.bnd (two0 p) ?_)))
    by_cases h1 : plainL.getD j 0 = p.1
    · refine Post.brT (beq_iff_eq.2 h1) (Post.pure ⟨rfl, (plain_mem _).2 ?_⟩)
      rw [← h1]
      rw [show plainL.getD j 0 = plainL[j] by simp [List.getD, hl, e]]
      exact List.getElem_mem _
    · refine Post.brF (beq_eq_false_iff_ne.2 h1) (Post.pure ?_)
      rw [wrap_succ (by omega)]
      refine ⟨⟨j + 1, e, rfl, fun i hi => ?_⟩, by dsimp only; omega⟩
      rcases Nat.lt_or_ge i j with g | g
      · exact h i g
      · rw [show i = j by omega]; exact h1
  · refine Post.brF (by rw [decide_eq_false_iff_not, hl]; omega) (Post.pure ⟨rfl, ?_⟩)
    cases hb : isBr p.1 with
    | true => rfl
    | false =>
      obtain ⟨i, hi, hm⟩ := List.getElem_of_mem ((plain_mem _).1 hb)
      exact absurd (show plainL.getD i 0 = p.1 by simp only [List.getD, List.getElem?_eq_getElem hi, Option.getD_some]; exact hm) (h i (by rw [hl] at hi; omega))
theorem rbrack_F (x : Int) : ref04_Bracket_F x = some (rbV x) := by
  unfold ref04_Bracket_F ref04_Bracket_T
  refine Post.run (Post.bnd mirrors_F (Post.alt (R := fun r => match r with | .inl _ => rb1 gtab x = none | .inr r => rb1 gtab x = some r) (loop_ex (L := fun s : Int × List (List Int) × Int => ref04_Bracket_L3 s.1 s.2.1 s.2.2) (fun s => ∃ k : Nat, k ≤ 35 ∧ s = (x, gtab.map two, (k : Int)) ∧ rb1 gtab x = rb1 (gtab.drop k) x) (fun s => 35 - s.2.2.toNat) ?_ ⟨0, by omega, rfl, rfl⟩) ?_ ?_))
  · rintro s ⟨k, hk, rfl, h⟩
    dsimp only
    unfold ref04_Bracket_L3
    by_cases e : k < 35
    · have hg : k < gtab.length := by rw [glen]; exact e
      rw [drop_cons hg] at h
      have hi := idx_getD (xs := gtab.map two) [] (i := (k : Int)) rfl (by rw [rlen]; exact e)
      rw [map_at hg] at hi
      have hp := rplain_F (x := x) e
      generalize gtab.getD k pz = p at *
      unfold rb1 at h
      refine Post.brT (by rw [decide_eq_true_eq, rlen]; omega) (Post.bnd hi (Post.bnd (two0 p) ?_))
      have tail : ∀ {Q : Lap (Int × List (List Int) × Int) (Sum Unit (Int × Int)) → Prop}, (∀ v, rb1 gtab x = some v → Q (.done (.inr v))) → (isBr p.1 = false → rb1 gtab x = some (0, 0)) → (isBr p.1 = true → rb1 gtab x = if p.1 = x then some (1, kn p.1) else some (2, kn p.1)) → ∀ {A : Tr (Lap (Int × List (List Int) × Int) (Sum Unit (Int × Int)))}, A = Tr.bnd ref04_Plain_F (fun c_18 =>
          .alt (loopW (fun s => (ref04_Bracket_L8 s.1 s.2.1 s.2.2.1 s.2.2.2.1 s.2.2.2.2).run) (x, gtab.map two, (k : Int), c_18, 0)) (fun l_19 =>
            .bnd (idx l_19.2.1 l_19.2.2) fun x_20 => .bnd (idx x_20 0) fun x_21 => .br (x_21 == 9001) (
              .bnd (idx l_19.2.1 l_19.2.2) fun x_22 => .bnd (idx x_22 0) fun x_23 => .br (x_23 == l_19.1) (.pure (.done (.inr (1, 12296)))) (.pure (.done (.inr (2, 12296))))) (
              .bnd (idx l_19.2.1 l_19.2.2) fun x_24 => .bnd (idx x_24 0) fun x_25 => .br (x_25 == l_19.1) (.pure (.done (.inr (1, x_21)))) (.pure (.done (.inr (2, x_21)))))) (fun l_26 =>
            .pure (.done (.inr (l_26.1, l_26.2))))) → Post A Q := by
        intro Q hQ g0 g1 A hA
        rw [hA]
        obtain ⟨r, q1, q2⟩ := hp
        refine Post.bnd plain_F ?_
        cases r with
        | inl r =>
          obtain ⟨rfl, hb⟩ := q2
          refine Post.altL q1 (Post.bnd hi (Post.bnd (two0 p) ?_))
          have g1 := g1 hb
          unfold kn at g1
          by_cases h9 : p.1 = 9001
          · rw [if_pos h9] at g1
            refine Post.brT (beq_iff_eq.2 h9) (Post.bnd hi (Post.bnd (two0 p) ?_))
            by_cases h1 : p.1 = x
            · rw [if_pos h1] at g1
              exact Post.brT (beq_iff_eq.2 h1) (Post.pure (hQ _ g1))
            · rw [if_neg h1] at g1
              exact Post.brF (beq_eq_false_iff_ne.2 h1) (Post.pure (hQ _ g1))
          · rw [if_neg h9] at g1
            refine Post.brF (beq_eq_false_iff_ne.2 h9) (Post.bnd hi (Post.bnd (two0 p) ?_))
            by_cases h1 : p.1 = x
            · rw [if_pos h1] at g1
              exact Post.brT (beq_iff_eq.2 h1) (Post.pure (hQ _ g1))
            · rw [if_neg h1] at g1
              exact Post.brF (beq_eq_false_iff_ne.2 h1) (Post.pure (hQ _ g1))
        | inr r =>
          obtain ⟨rfl, hb⟩ := q2
          exact Post.altR q1 (Post.pure (hQ _ (g0 hb)))
      by_cases h1 : p.1 = x
      · rw [if_neg (fun g => g.1 h1)] at h
        exact Post.brF (by simpa using h1) (tail (fun v hv => hv) (fun hb => by rw [if_pos hb] at h; exact h) (fun hb => by rw [if_neg (by rw [hb]; simp)] at h; exact h) rfl)
      · refine Post.brT (by simpa using h1) (Post.bnd hi (Post.bnd (two1 p) ?_))
        by_cases h2 : p.2 = x
        · rw [if_neg (fun g => g.2 h2)] at h
          exact Post.brF (by simpa using h2) (tail (fun v hv => hv) (fun hb => by rw [if_pos hb] at h; exact h) (fun hb => by rw [if_neg (by rw [hb]; simp)] at h; exact h) rfl)
        · rw [if_pos ⟨h1, h2⟩] at h
          refine Post.brT (by simpa using h2) (Post.pure ?_)
          rw [wrap_succ (by omega)]
          exact ⟨⟨k + 1, e, rfl, h⟩, by dsimp only; omega⟩
    · refine Post.brF (by rw [decide_eq_false_iff_not, rlen]; omega) (Post.pure ?_)
      show rb1 gtab x = none
      rw [h, List.drop_of_length_le (by rw [glen]; omega)]
      rfl
  · intro b h
    have h : rb1 gtab x = none := h
    exact Post.pure (by unfold rbV; rw [h])
  · intro y h
    have h : rb1 gtab x = some y := h
    exact Post.pure (by unfold rbV; rw [h])

theorem awake05 : law05_awake_F = some true := by
  unfold law05_awake_F law05_awake_T
  refine Post.run (Post.bnd (of_F 40) (Post.bnd (of_F 97) (Post.bnd (brack_F 93) (Post.bnd (brack_F 9002) (Post.bnd (brack_F 60) ?_)))))
  exact Post.brT (by decide +kernel) (Post.brT (by decide +kernel) (Post.brT (by decide +kernel) (Post.brT (by decide +kernel) (Post.brT (by decide +kernel) (Post.brT (by decide +kernel) (Post.brT (by decide +kernel) (Post.brT (by decide +kernel) (Post.brT (by decide +kernel) (Post.pure (by decide +kernel))))))))))

/-! ### of every place of the table -/
def Good (x : Int) : Prop := (0 ≤ miV x ∧ miV x ≤ 70000) ∧ ofV x = (miV x, true) ∧ brV x = rbV x ∧ (0 ≤ (brV x).2 ∧ (brV x).2 ≤ 70000) ∧
  ((ofV (miV x)).2 = true ∧ (ofV (miV x)).1 = x ∧ miV x ≠ x) ∧
  ((brV x).1 = 0 ∧ (brV x).2 = 0 ∨ (brV (miV x)).2 = (brV x).2 ∧ (brV x).1 ≠ (brV (miV x)).1 ∧ (brV (miV x)).1 ≠ 0 ∧ ((brV x).1 = 1 ∨ (brV x).1 = 2))
instance (x : Int) : Decidable (Good x) := by unfold Good; infer_instance
theorem all_good : ∀ p ∈ gtab, Good p.1 ∧ Good p.2 := by decide +kernel
theorem good_of {x : Int} (h : ∃ p ∈ gtab, p.1 = x ∨ p.2 = x) : Good x := by
  obtain ⟨p, hp, rfl | rfl⟩ := h
  · exact (all_good p hp).1
  · exact (all_good p hp).2
theorem pair_good : ∀ p ∈ gtab, (brV p.1).2 = (brV p.2).2 ∧ ((brV p.1).1 = 1 ∧ (brV p.2).1 = 2 ∨ (brV p.1).1 = 0 ∧ (brV p.2).1 = 0 ∧ (brV p.1).2 = 0) := by decide +kernel

theorem mirrorOf_true (x : Int) (hx : -2147483648 ≤ x ∧ x ≤ 2147483647) : law05_MirrorOf_F x = some true := by
  unfold law05_MirrorOf_F law05_MirrorOf_T
  rw [wrap64 (n := x) (by omega) (by omega)]
  refine Post.run (Post.bnd awake05 (Post.brF rfl (Post.bnd (of_F x) (Post.bnd (rmirror_F x) (Post.bnd (brack_F x) (Post.bnd (rbrack_F x) ?_))))))
  rcases on_or_off x with h | h
  · rw [ofV_off h, miV_off h, brV_off h, rbV_off h]
    exact Post.brF (by rfl) (Post.brF rfl (Post.brT rfl (Post.brF (by simp) (Post.brT rfl (Post.pure (by rfl))))))
  · obtain ⟨h1, h2, h3, h4, _⟩ := good_of h
    rw [h2, ← h3]
    refine Post.brF (by simp; omega) (Post.brT rfl ?_)
    dsimp only
    rw [wrap64 (n := miV x) (by omega) (by omega), wrap64 (n := (brV x).2) (by omega) (by omega)]
    exact Post.brF (by simp) (Post.brF rfl (Post.brT (by simp) (Post.pure (by simp))))
theorem mirrorOf_all (x : Tys.I [.int .i32]) (h : WfAll [.int .i32] x) : law05_MirrorOf_F x.1 = some true := mirrorOf_true _ (wf_i32 h.1)

theorem mirrorBrackets_true (x : Int) : law05_MirrorBrackets_F x = some true := by
  unfold law05_MirrorBrackets_F law05_MirrorBrackets_T
  refine Post.run (Post.bnd awake05 (Post.brF rfl (Post.bnd (brack_F x) ?_)))
  rcases on_or_off x with h | h
  · rw [brV_off h]
    exact Post.brT rfl (Post.pure rfl)
  · obtain ⟨_, h2, _, _, _, h6⟩ := good_of h
    rcases h6 with ⟨h6, h7⟩ | ⟨h6, h7, h8, h9⟩
    · exact Post.brT (beq_iff_eq.2 h6) (Post.pure (by rw [h7]; rfl))
    · refine Post.brF (beq_eq_false_iff_ne.2 (by omega)) (Post.bnd (of_F x) ?_)
      rw [h2]
      refine Post.bnd (brack_F _) (Post.brT rfl (Post.brT (beq_iff_eq.2 h6) (Post.brT (by simpa using h7) (Post.brT (by simpa using h8) ?_))))
      rcases h9 with h9 | h9
      · exact Post.brT (beq_iff_eq.2 h9) (Post.pure rfl)
      · exact Post.brF (beq_eq_false_iff_ne.2 (by omega)) (Post.pure (by rw [h9]; rfl))
theorem mirrorBrackets_all (x : Tys.I [.int .i32]) (_ : WfAll [.int .i32] x) : law05_MirrorBrackets_F x.1 = some true := mirrorBrackets_true _

theorem kmod {k : Int} (hk : 0 ≤ k ∧ k ≤ 255) : ∃ i : Nat, i < 35 ∧ (IntKind.i64.wrap k).tmod (gtab.length : Int) = (i : Int) := by
  rw [wrap64 (by omega) (by omega), glen]
  refine ⟨(k % 35).toNat, by omega, ?_⟩
  rw [Int.tmod_eq_emod_of_nonneg hk.1]
  omega
theorem tab_small : ∀ p ∈ gtab, 0 ≤ p.1 ∧ p.1 ≤ 70000 ∧ 0 ≤ p.2 ∧ p.2 ≤ 70000 := by decide +kernel
theorem getD_mem {k : Nat} (hk : k < gtab.length) : gtab.getD k pz ∈ gtab := by
  rw [show gtab.getD k pz = gtab[k] by simp [List.getD, hk]]
  exact List.getElem_mem _
theorem mirrorPairs_true (k : Int) (hk : 0 ≤ k ∧ k ≤ 255) : law05_MirrorPairs_F k = some true := by
  unfold law05_MirrorPairs_F law05_MirrorPairs_T
  obtain ⟨i, hi, e⟩ := kmod hk
  have hg : i < gtab.length := by rw [glen]; exact hi
  have hr := idx_getD (xs := gtab.map two) [] (i := (i : Int)) rfl (by rw [rlen]; exact hi)
  rw [map_at hg] at hr
  obtain ⟨s1, s2, s3, s4⟩ := tab_small _ (getD_mem hg)
  refine Post.run (Post.bnd awake05 (Post.brF rfl (Post.bnd pairs_F (Post.bnd mirrors_F (Post.brF (by simp) (Post.brT (by decide +kernel) ?_))))))
  rw [e]
  refine Post.idx pz i rfl hg (Post.bnd hr (Post.bnd (two0 _) ?_))
  rw [wrap64 (by omega) (by omega)]
  refine Post.brT (by simp) (Post.idx pz i rfl hg (Post.bnd hr (Post.bnd (two1 _) (Post.pure ?_))))
  rw [wrap64 (by omega) (by omega)]
  simp
theorem mirrorPairs_all (x : Tys.I [.int .u8]) (h : WfAll [.int .u8] x) : law05_MirrorPairs_F x.1 = some true := mirrorPairs_true _ (wf_u8 h.1)

theorem mirrorTwice_true (r k : Int) (hk : 0 ≤ k ∧ k ≤ 255) : law05_MirrorTwice_F r k = some true := by
  unfold law05_MirrorTwice_F law05_MirrorTwice_T
  obtain ⟨i, hi, e⟩ := kmod hk
  have hg : i < gtab.length := by rw [glen]; exact hi
  refine Post.run (Post.bnd awake05 (Post.brF rfl (Post.bnd pairs_F (Post.brF (by decide +kernel) (Post.brT (by decide +kernel) ?_)))))
  rw [e]
  refine Post.idx pz i rfl hg (post_box (post_box ?_))
  have hm := getD_mem hg
  generalize gtab.getD i pz = p at *
  obtain ⟨g1, g2⟩ := pair_good p hm
  refine Post.altL (b := p) (count (L := fun s : (Int × Int) × List Int × Int × Int => law05_MirrorTwice_L8 s.1 s.2.1 s.2.2.1 s.2.2.2) 3 (fun k => (p, [r, p.1, p.2], 3, (k : Int))) rfl (fun j hj => ?_) ?_) ?_
  · dsimp only
    unfold law05_MirrorTwice_L8
    refine Post.brT (by rw [decide_eq_true_eq]; omega) (Post.idx 0 j rfl (by simpa using hj) ?_)
    generalize [r, p.1, p.2].getD j 0 = y
    rw [wrap_succ (by omega)]
    refine Post.bnd (of_F y) ?_
    rcases on_or_off y with h | h
    · rw [ofV_off h]
      refine Post.bnd (of_F y) ?_
      rw [ofV_off h]
      exact Post.brF rfl (Post.brF (by simp) (Post.brF (by simp) (Post.pure rfl)))
    · obtain ⟨_, h2, _, _, ⟨h3, h4, h5⟩, _⟩ := good_of h
      rw [h2]
      refine Post.bnd (of_F (miV y)) (Post.brF (by rw [h3]; rfl) (Post.brF (by rw [h4]; simp) (Post.brF ?_ (Post.pure rfl))))
      simpa using h5
  · dsimp only
    unfold law05_MirrorTwice_L8
    exact Post.brF (by decide) (Post.pure rfl)
  · refine post_box (Post.bnd (brack_F p.1) (post_box (Post.bnd (brack_F p.2) (Post.brT (beq_iff_eq.2 g1) ?_))))
    rcases g2 with ⟨g2, g3⟩ | ⟨g2, g3, g4⟩
    · exact Post.brT (beq_iff_eq.2 g2) (Post.brT (beq_iff_eq.2 g3) (Post.pure rfl))
    · exact Post.brF (beq_eq_false_iff_ne.2 (by omega)) (Post.brT (beq_iff_eq.2 g2) (Post.brT (beq_iff_eq.2 g3) (Post.pure (by rw [g4]; rfl))))
theorem mirrorTwice_all (x : Tys.I [.int .i32, .int .u8]) (h : WfAll [.int .i32, .int .u8] x) : law05_MirrorTwice_F x.1 x.2.1 = some true := mirrorTwice_true _ _ (wf_u8 h.2.1)
end Go.Proofs.YtgeipjpnjjkphaaDoor
