/-
  The laws of the base return true.
-/
import Derived.Test.YtfljkcfahhkfbaaSh
import Derived.Test.YtfljkcfahhkfbaaEvMath
namespace Go.Proofs.Ytfljkcfahhkfbaa

def iso (c : Int) : Bool := c == 19 || c == 20 || c == 21
theorem isolate_F (c : Int) : bidic_Isolate_F c = some (iso c) := by
  unfold bidic_Isolate_F bidic_Isolate_T iso
  rw [Tr.run_br, Tr.run_br]
  by_cases h1 : c = 19
  · simp [h1, Tr.run_pure]
  · by_cases h2 : c = 20
    · simp [h2, Tr.run_pure]
    · simp [h1, h2, Tr.run_pure]
def strong (c : Int) : Bool := c == 0 || c == 1 || c == 2
theorem strong_F (c : Int) : bidic_Strong_F c = some (strong c) := by
  unfold bidic_Strong_F bidic_Strong_T strong
  rw [Tr.run_br, Tr.run_br]
  by_cases h1 : c = 0
  · simp [h1, Tr.run_pure]
  · by_cases h2 : c = 1
    · simp [h2, Tr.run_pure]
    · simp [h1, h2, Tr.run_pure]

/-- what the first strong class tells, from a depth on -/
def first (inside : Bool) (other : Int) : List Int → Nat → Int
  | [], _ => other
  | c :: r, d => if iso c then first inside other r (d + 1) else if c = 22 ∧ 0 < d then first inside other r (d - 1) else if c = 22 ∧ inside = true then other else
      if strong c = true ∧ d = 0 then (if c = 0 then 0 else 1) else first inside other r d

theorem first_cons (inside : Bool) (other c : Int) (r : List Int) (d : Nat) : first inside other (c :: r) d = if iso c then first inside other r (d + 1) else if c = 22 ∧ 0 < d then first inside other r (d - 1) else if c = 22 ∧ inside = true then other else
      if strong c = true ∧ d = 0 then (if c = 0 then 0 else 1) else first inside other r d := rfl
theorem drop_cons {l : List Int} {k : Nat} (h : k < l.length) : l.drop k = l.getD k 0 :: l.drop (k + 1) := by
  rw [List.drop_eq_getElem_cons h]
  simp [List.getD, h]

theorem base_strong (c : Int) : base_strong_F c = some (if c = 0 then 0 else 1) := by
  unfold base_strong_F base_strong_T
  rw [Tr.run_br]
  by_cases h : c = 0
  · simp [h, Tr.run_pure]
  · simp [h, Tr.run_pure]

theorem first_F (cs : List Int) (inside : Bool) (other : Int) (hn : cs.length ≤ 4194304) : base_First_F cs inside other = some (first inside other cs 0) := by
  unfold base_First_F base_First_T
  refine Exists.elim (loopW_rule (f := fun s : Bool × Int × Int × List Int × Int × Int => (base_First_L3 s.1 s.2.1 s.2.2.1 s.2.2.2.1 s.2.2.2.2.1 s.2.2.2.2.2).run)
    (fun s => ∃ k d : Nat, k ≤ cs.length ∧ d ≤ k ∧ s = (inside, other, (d : Int), cs, (cs.length : Int), (k : Int)) ∧ first inside other cs 0 = first inside other (cs.drop k) d)
    (fun s => cs.length - s.2.2.2.2.2.toNat)
    (fun r => r = .inl (first inside other cs 0) ∨ r = .inr (first inside other cs 0)) ?_ (inside, other, 0, cs, (cs.length : Int), 0) ⟨0, 0, by omega, by omega, rfl, rfl⟩) (fun r hr => ?_)
  · rintro s ⟨k, d, hk, hd, rfl, hf⟩
    dsimp only
    unfold base_First_L3
    rw [Tr.run_br]
    by_cases e : k = cs.length
    · right
      subst e
      rw [if_neg (by simp), Tr.run_pure]
      refine ⟨_, rfl, .inl ?_⟩
      rw [hf]
      simp [first]
    · have hk' : k < cs.length := by omega
      rw [drop_cons hk'] at hf
      generalize hc : cs.getD k 0 = c at hf
      have nx : ∀ d' : Nat, d' ≤ k + 1 → first inside other cs 0 = first inside other (cs.drop (k + 1)) d' → ∃ s', (Tr.pure (Lap.next (inside, other, (d' : Int), cs, (cs.length : Int), (k : Int) + 1)) : Tr (Lap (Bool × Int × Int × List Int × Int × Int) (Sum Int Int))).run = some (.next s') ∧
          (∃ k d : Nat, k ≤ cs.length ∧ d ≤ k ∧ s' = (inside, other, (d : Int), cs, (cs.length : Int), (k : Int)) ∧ first inside other cs 0 = first inside other (cs.drop k) d) ∧ cs.length - s'.2.2.2.2.2.toNat < cs.length - (k : Int).toNat := by
        intro d' h1 h2
        refine ⟨_, rfl, ⟨k + 1, d', by omega, h1, rfl, h2⟩, ?_⟩
        dsimp only
        omega
      rw [if_pos (by simp; omega), Tr.run_bnd_some (idx_getD 0 rfl hk'), hc, Tr.run_bnd_some (isolate_F c), Tr.run_br, wrap64 (n := (k : Int) + 1) (by omega) (by omega), wrap64 (n := (d : Int) + 1) (by omega) (by omega), wrap64 (n := (d : Int) - 1) (by omega) (by omega)]
      rw [first_cons] at hf
      by_cases h1 : iso c = true
      · left
        rw [if_pos h1] at hf ⊢
        exact nx (d + 1) (by omega) hf
      · have tail : ∀ (hd0 : ¬ (c = 22 ∧ 0 < d)) (hin : ¬ (c = 22 ∧ inside = true)), (∃ s', (Tr.bnd (bidic_Strong_F c) fun c_9 => Tr.br c_9 (Tr.br ((d : Int) == 0) (Tr.bnd (base_strong_F c) fun c_10 => Tr.pure (Lap.done (Sum.inr c_10)))
              (Tr.pure (Lap.next (inside, other, (d : Int), cs, (cs.length : Int), (k : Int) + 1)))) (Tr.pure (Lap.next (inside, other, (d : Int), cs, (cs.length : Int), (k : Int) + 1))) : Tr (Lap (Bool × Int × Int × List Int × Int × Int) (Sum Int Int))).run = some (.next s') ∧
            (∃ k d : Nat, k ≤ cs.length ∧ d ≤ k ∧ s' = (inside, other, (d : Int), cs, (cs.length : Int), (k : Int)) ∧ first inside other cs 0 = first inside other (cs.drop k) d) ∧ cs.length - s'.2.2.2.2.2.toNat < cs.length - (k : Int).toNat) ∨
            (∃ r, (Tr.bnd (bidic_Strong_F c) fun c_9 => Tr.br c_9 (Tr.br ((d : Int) == 0) (Tr.bnd (base_strong_F c) fun c_10 => Tr.pure (Lap.done (Sum.inr c_10)))
              (Tr.pure (Lap.next (inside, other, (d : Int), cs, (cs.length : Int), (k : Int) + 1)))) (Tr.pure (Lap.next (inside, other, (d : Int), cs, (cs.length : Int), (k : Int) + 1))) : Tr (Lap (Bool × Int × Int × List Int × Int × Int) (Sum Int Int))).run = some (.done r) ∧
            (r = .inl (first inside other cs 0) ∨ r = .inr (first inside other cs 0))) := by
          intro hd0 hin
          rw [if_neg h1, if_neg hd0, if_neg hin] at hf
          rw [Tr.run_bnd_some (strong_F c), Tr.run_br]
          by_cases h4 : strong c = true
          · rw [if_pos h4, Tr.run_br]
            by_cases h5 : d = 0
            · right
              subst h5
              rw [if_pos (by simp), Tr.run_bnd_some (base_strong c), Tr.run_pure]
              rw [if_pos ⟨h4, rfl⟩] at hf
              exact ⟨_, rfl, .inr (by rw [hf])⟩
            · left
              rw [if_neg (by simp; omega)]
              rw [if_neg (fun h => h5 h.2)] at hf
              exact nx d (by omega) hf
          · left
            rw [if_neg h4]
            rw [if_neg (fun h => h4 h.1)] at hf
            exact nx d (by omega) hf
        rw [if_neg h1, Tr.run_br]
        by_cases h2 : c = 22
        · rw [if_pos (by simpa using h2), Tr.run_br]
          by_cases h3 : 0 < d
          · left
            rw [if_pos (by simp; omega)]
            rw [if_neg h1, if_pos ⟨h2, h3⟩] at hf
            have := nx (d - 1) (by omega) hf
            rw [show ((d - 1 : Nat) : Int) = (d : Int) - 1 by omega] at this
            exact this
          · rw [if_neg (by simp; omega), Tr.run_br, if_pos (by simpa using h2), Tr.run_br]
            by_cases h6 : inside = true
            · right
              rw [if_pos h6, Tr.run_pure]
              rw [if_neg h1, if_neg (fun h => h3 h.2), if_pos ⟨h2, h6⟩] at hf
              exact ⟨_, rfl, .inr (by rw [hf])⟩
            · rw [if_neg h6]
              exact tail (fun h => h3 h.2) (fun h => h6 h.2)
        · rw [if_neg (by simpa using h2), Tr.run_br, if_neg (by simpa using h2)]
          exact tail (fun h => h2 h.1) (fun h => h2 h.1)
  · obtain ⟨hl, rfl | rfl⟩ := hr
    · rw [Tr.run_alt_inl hl]; rfl
    · rw [Tr.run_alt_inr hl]; rfl

/-- how many classes stand ahead of the one that closes -/
def closeL : List Int → Nat → Nat
  | [], _ => 0
  | c :: r, n => if iso c then 1 + closeL r (n + 1) else if c = 22 then (if n = 1 then 0 else 1 + closeL r (n - 1)) else 1 + closeL r n
theorem closeL_cons (c : Int) (r : List Int) (n : Nat) : closeL (c :: r) n = if iso c then 1 + closeL r (n + 1) else if c = 22 then (if n = 1 then 0 else 1 + closeL r (n - 1)) else 1 + closeL r n := rfl
theorem iso22 : iso 22 = false := rfl
theorem first_skip (inside : Bool) (other : Int) : ∀ (l : List Int) (d : Nat), 0 < d → first inside other l d = first inside other (l.drop (closeL l d + 1)) 0
  | [], d, h => by simp [first]
  | c :: r, d, h => by
    rw [first_cons, closeL_cons]
    by_cases h1 : iso c = true
    · rw [if_pos h1, if_pos h1, first_skip inside other r (d + 1) (by omega), Nat.add_comm 1 _]
      rfl
    · rw [if_neg h1, if_neg h1]
      by_cases h2 : c = 22
      · rw [if_pos ⟨h2, h⟩, if_pos h2]
        by_cases h3 : d = 1
        · subst h3
          simp
        · rw [if_neg h3, first_skip inside other r (d - 1) (by omega), Nat.add_comm 1 _]
          rfl
      · rw [if_neg (fun h => h2 h.1), if_neg (fun h => h2 h.1), if_neg (fun h' => by omega), if_neg h2, first_skip inside other r d h, Nat.add_comm 1 _]
        rfl
theorem closeL_le : ∀ (l : List Int) (n : Nat), closeL l n ≤ l.length
  | [], _ => by simp [closeL]
  | c :: r, n => by
    have h1 := closeL_le r (n + 1)
    have h2 := closeL_le r (n - 1)
    have h3 := closeL_le r n
    unfold closeL
    simp only [List.length_cons]
    repeat' split
    all_goals omega

theorem beginning_F (c : Int) : ref10_beginning_F c = some (iso c) := by
  unfold ref10_beginning_F ref10_beginning_T iso
  rw [Tr.run_br]
  by_cases h1 : c ≥ 19
  · rw [if_pos (by simpa using h1), Tr.run_pure]
    congr 1
    by_cases h2 : c ≤ 21
    · have : c = 19 ∨ c = 20 ∨ c = 21 := by omega
      rcases this with rfl | rfl | rfl <;> rfl
    · have a1 : ¬ c = 19 := by omega
      have a2 : ¬ c = 20 := by omega
      have a3 : ¬ c = 21 := by omega
      simp [h2, a1, a2, a3]
  · have a1 : ¬ c = 19 := by omega
    have a2 : ¬ c = 20 := by omega
    have a3 : ¬ c = 21 := by omega
    rw [if_neg (by simpa using h1), Tr.run_pure]
    simp [a1, a2, a3]

theorem close_F (cs : List Int) (hn : cs.length ≤ 4194304) (at_ : Nat) (ha : at_ < cs.length) (hi : iso (cs.getD at_ 0) = true) : ref10_Close_F cs (at_ : Int) = some ((at_ + closeL (cs.drop at_) 0 : Nat) : Int) := by
  unfold ref10_Close_F ref10_Close_T
  refine Exists.elim (loopW_rule (f := fun s : List Int × Int × Int => (ref10_Close_L3 s.1 s.2.1 s.2.2).run)
    (fun s => ∃ k n : Nat, k ≤ cs.length ∧ n ≤ k ∧ (0 < n ∨ k = at_) ∧ s = (cs, (n : Int), (k : Int)) ∧ k + closeL (cs.drop k) n = at_ + closeL (cs.drop at_) 0)
    (fun s => cs.length - s.2.2.toNat)
    (fun r => (r = .inl cs ∧ cs.length = at_ + closeL (cs.drop at_) 0) ∨ r = .inr ((at_ + closeL (cs.drop at_) 0 : Nat) : Int)) ?_ (cs, 0, (at_ : Int)) ⟨at_, 0, by omega, by omega, .inr rfl, rfl, rfl⟩) (fun r hr => ?_)
  · rintro s ⟨k, n, hk, hn', h0, rfl, hf⟩
    dsimp only
    unfold ref10_Close_L3
    rw [Tr.run_br]
    by_cases e : k = cs.length
    · right
      subst e
      rw [if_neg (by simp), Tr.run_pure]
      refine ⟨_, rfl, .inl ⟨rfl, ?_⟩⟩
      rw [← hf]
      simp [closeL]
    · have hk' : k < cs.length := by omega
      rw [drop_cons hk'] at hf
      have h0' : iso (cs.getD k 0) = false → 0 < n := by
        intro hh
        rcases h0 with h0 | h0
        · exact h0
        · subst h0; rw [hi] at hh; cases hh
      have eget := idx_getD (xs := cs) 0 (i := (k : Int)) rfl hk'
      generalize hc : cs.getD k 0 = c at hf h0' eget
      have nx : ∀ d' : Nat, d' ≤ k + 1 → 0 < d' → k + (1 + closeL (cs.drop (k + 1)) d') = at_ + closeL (cs.drop at_) 0 → ∃ s', (Tr.pure (Lap.next (cs, (d' : Int), (k : Int) + 1)) : Tr (Lap (List Int × Int × Int) (Sum (List Int) Int))).run = some (.next s') ∧
          (∃ k n : Nat, k ≤ cs.length ∧ n ≤ k ∧ (0 < n ∨ k = at_) ∧ s' = (cs, (n : Int), (k : Int)) ∧ k + closeL (cs.drop k) n = at_ + closeL (cs.drop at_) 0) ∧ cs.length - s'.2.2.toNat < cs.length - (k : Int).toNat := by
        intro d' h1 h2 h3
        refine ⟨_, rfl, ⟨k + 1, d', by omega, h1, .inl h2, rfl, by omega⟩, ?_⟩
        dsimp only
        omega
      rw [if_pos (by simp; omega), Tr.run_bnd_some eget, Tr.run_bnd_some (beginning_F c), Tr.run_br, wrap64 (n := (n : Int) + 1) (by omega) (by omega), wrap64 (n := (k : Int) + 1) (by omega) (by omega), wrap64 (n := (n : Int) - 1) (by omega) (by omega)]
      rw [closeL_cons] at hf
      by_cases h1 : iso c = true
      · left
        have h2 : ¬ c = 22 := by
          intro e; subst e; cases h1
        rw [if_pos h1] at hf ⊢
        rw [Tr.run_bnd_some eget, Tr.run_br, if_neg (by simpa using h2)]
        exact nx (n + 1) (by omega) (by omega) hf
      · have hn0 := h0' (by simpa using h1)
        rw [if_neg h1] at hf ⊢
        rw [Tr.run_bnd_some eget, Tr.run_br]
        by_cases h2 : c = 22
        · rw [if_pos h2] at hf
          rw [if_pos (by simpa using h2), Tr.run_br]
          by_cases h3 : n = 1
          · right
            rw [if_pos h3] at hf
            rw [if_pos (by simp; omega), Tr.run_pure]
            exact ⟨_, rfl, .inr (by rw [← hf]; rfl)⟩
          · left
            rw [if_neg h3] at hf
            rw [if_neg (by simp; omega)]
            have := nx (n - 1) (by omega) (by omega) hf
            rw [show ((n - 1 : Nat) : Int) = (n : Int) - 1 by omega] at this
            exact this
        · left
          rw [if_neg h2] at hf
          rw [if_neg (by simpa using h2)]
          exact nx n (by omega) hn0 hf
  · obtain ⟨hl, ⟨rfl, h⟩ | rfl⟩ := hr
    · rw [Tr.run_alt_inl hl, Tr.run_pure]
      rw [← h]
    · rw [Tr.run_alt_inr hl]; rfl

theorem refFirst_F (cs : List Int) (inside : Bool) (other : Int) (hn : cs.length ≤ 4194304) : ref10_First_F cs inside other = some (first inside other cs 0) := by
  unfold ref10_First_F ref10_First_T
  refine Exists.elim (loopW_rule (f := fun s : List Int × Bool × Int × Int => (ref10_First_L2 s.1 s.2.1 s.2.2.1 s.2.2.2).run)
    (fun s => ∃ k : Nat, k ≤ cs.length + 1 ∧ s = (cs, inside, other, (k : Int)) ∧ first inside other cs 0 = first inside other (cs.drop k) 0)
    (fun s => cs.length + 1 - s.2.2.2.toNat)
    (fun r => r = .inl (first inside other cs 0) ∨ r = .inr (first inside other cs 0)) ?_ (cs, inside, other, 0) ⟨0, by omega, rfl, rfl⟩) (fun r hr => ?_)
  · rintro s ⟨k, hk, rfl, hf⟩
    dsimp only
    unfold ref10_First_L2
    rw [Tr.run_br]
    by_cases e : cs.length ≤ k
    · right
      rw [if_neg (by simp; omega), Tr.run_pure]
      refine ⟨_, rfl, .inl ?_⟩
      rw [hf, List.drop_of_length_le e]
      simp [first]
    · have hk' : k < cs.length := by omega
      rw [drop_cons hk'] at hf
      have hcl := close_F cs hn k hk'
      have hle := closeL_le (cs.drop k) 0
      rw [List.length_drop] at hle
      have hcl2 : closeL (cs.drop k) 0 = closeL (cs.getD k 0 :: cs.drop (k + 1)) 0 := by rw [← drop_cons hk']
      have eget := idx_getD (xs := cs) 0 (i := (k : Int)) rfl hk'
      generalize hc : cs.getD k 0 = c at hf hcl hcl2 eget
      rw [if_pos (by simp; omega), Tr.run_bnd_some eget, Tr.run_bnd_some (beginning_F c), Tr.run_br, wrap64 (n := (k : Int) + 1) (by omega) (by omega)]
      have nx : ∀ j : Nat, k < j → j ≤ cs.length + 1 → first inside other cs 0 = first inside other (cs.drop j) 0 → ∃ s', (Tr.pure (Lap.next (cs, inside, other, (j : Int))) : Tr (Lap (List Int × Bool × Int × Int) (Sum Int Int))).run = some (.next s') ∧
          (∃ k : Nat, k ≤ cs.length + 1 ∧ s' = (cs, inside, other, (k : Int)) ∧ first inside other cs 0 = first inside other (cs.drop k) 0) ∧ cs.length + 1 - s'.2.2.2.toNat < cs.length + 1 - (k : Int).toNat := by
        intro j h1 h2 h3
        refine ⟨_, rfl, ⟨j, h2, rfl, h3⟩, ?_⟩
        dsimp only
        omega
      rw [first_cons] at hf
      by_cases h1 : iso c = true
      · left
        rw [if_pos h1] at hf ⊢
        rw [first_skip inside other (cs.drop (k + 1)) (0 + 1) (by omega)] at hf
        rw [closeL_cons] at hcl2
        rw [if_pos h1] at hcl2
        rw [Tr.run_bnd_some (hcl h1), wrap64 (n := ((k + closeL (cs.drop k) 0 : Nat) : Int) + 1) (by omega) (by omega)]
        refine nx (k + closeL (cs.drop k) 0 + 1) (by omega) (by omega) ?_
        rw [hf, List.drop_drop]
        congr 2
        omega
      · have tail : ∀ (hin : ¬ (c = 22 ∧ inside = true)), (∃ s', (Tr.bnd (idx cs (k : Int)) fun x_8 => Tr.br (x_8 == 0) (Tr.pure (Lap.done (Sum.inr 0))) (Tr.bnd (idx cs (k : Int)) fun x_9 => Tr.br (x_9 == 1) (Tr.pure (Lap.done (Sum.inr 1)))
              (Tr.bnd (idx cs (k : Int)) fun x_10 => Tr.br (x_10 == 2) (Tr.pure (Lap.done (Sum.inr 1))) (Tr.pure (Lap.next (cs, inside, other, (k : Int) + 1))))) : Tr (Lap (List Int × Bool × Int × Int) (Sum Int Int))).run = some (.next s') ∧
            (∃ k : Nat, k ≤ cs.length + 1 ∧ s' = (cs, inside, other, (k : Int)) ∧ first inside other cs 0 = first inside other (cs.drop k) 0) ∧ cs.length + 1 - s'.2.2.2.toNat < cs.length + 1 - (k : Int).toNat) ∨
            (∃ r, (Tr.bnd (idx cs (k : Int)) fun x_8 => Tr.br (x_8 == 0) (Tr.pure (Lap.done (Sum.inr 0))) (Tr.bnd (idx cs (k : Int)) fun x_9 => Tr.br (x_9 == 1) (Tr.pure (Lap.done (Sum.inr 1)))
              (Tr.bnd (idx cs (k : Int)) fun x_10 => Tr.br (x_10 == 2) (Tr.pure (Lap.done (Sum.inr 1))) (Tr.pure (Lap.next (cs, inside, other, (k : Int) + 1))))) : Tr (Lap (List Int × Bool × Int × Int) (Sum Int Int))).run = some (.done r) ∧
            (r = .inl (first inside other cs 0) ∨ r = .inr (first inside other cs 0))) := by
          intro hin
          rw [if_neg h1, if_neg (fun h => by omega), if_neg hin] at hf
          rw [Tr.run_bnd_some eget, Tr.run_br]
          by_cases s0 : c = 0
          · right
            subst s0
            rw [if_pos (by simp), Tr.run_pure]
            exact ⟨_, rfl, .inr (by rw [hf]; rfl)⟩
          · rw [if_neg (by simpa using s0), Tr.run_bnd_some eget, Tr.run_br]
            by_cases s1 : c = 1
            · right
              subst s1
              rw [if_pos (by simp), Tr.run_pure]
              exact ⟨_, rfl, .inr (by rw [hf]; rfl)⟩
            · rw [if_neg (by simpa using s1), Tr.run_bnd_some eget, Tr.run_br]
              by_cases s2 : c = 2
              · right
                subst s2
                rw [if_pos (by simp), Tr.run_pure]
                exact ⟨_, rfl, .inr (by rw [hf]; rfl)⟩
              · left
                rw [if_neg (by simpa using s2)]
                rw [if_neg (by simp [strong, s0, s1, s2])] at hf
                exact nx (k + 1) (by omega) (by omega) hf
        rw [if_neg h1, Tr.run_bnd_some eget, Tr.run_br]
        by_cases h2 : c = 22
        · rw [if_pos (by simpa using h2), Tr.run_br]
          by_cases h6 : inside = true
          · right
            rw [if_pos h6, Tr.run_pure]
            rw [if_neg h1, if_neg (fun h => by omega), if_pos ⟨h2, h6⟩] at hf
            exact ⟨_, rfl, .inr (by rw [hf])⟩
          · rw [if_neg h6]
            exact tail (fun h => h6 h.2)
        · rw [if_neg (by simpa using h2)]
          exact tail (fun h => h2 h.1)
  · obtain ⟨hl, rfl | rfl⟩ := hr
    · rw [Tr.run_alt_inl hl]; rfl
    · rw [Tr.run_alt_inr hl]; rfl

/-- the classes that numbers stand for -/
theorem classes_F (ns : List Int) (hn : ns.length ≤ 2097152) (h8 : ∀ n ∈ ns, 0 ≤ n ∧ n ≤ 255) : ∃ cs, law08_Classes_F ns = some cs ∧ cs.length = ns.length ∧ cs = tab ns.length (fun i => (ns.getD i 0) % 23) ∧ ∀ c ∈ cs, 0 ≤ c ∧ c ≤ 22 := by
  refine ⟨tab ns.length (fun i => (ns.getD i 0) % 23), ?_, tab_len _ _, rfl, ?_⟩
  · unfold law08_Classes_F law08_Classes_T
    have hl := loopW_count (f := fun s : List Int × List Int × Int => (law08_Classes_L3 s.1 s.2.1 s.2.2).run) ns.length
      (fun k => (ns, tab k (fun i => (ns.getD i 0) % 23), (k : Int))) (r := tab ns.length (fun i => (ns.getD i 0) % 23)) ?_ ?_
    · rw [show ((0 : Nat) : Int) = 0 from rfl, tab_zero] at hl
      rw [Tr.run_bnd_some hl]
      rfl
    · intro k hk
      dsimp only
      unfold law08_Classes_L3
      have hm := h8 (ns.getD k 0) (by simp [List.getD, hk])
      rw [Tr.run_br, if_pos (by simp; omega), Tr.run_bnd_some (idx_getD 0 rfl hk), Tr.run_bnd_some (app_eq (by simp only [tab_len, List.length_cons, List.length_nil]; omega)), Tr.run_pure, Int.tmod_eq_emod_of_nonneg hm.1,
        wrap64 (by omega) (by omega), tab_succ k (fun i => (ns.getD i 0) % 23)]
      rfl
    · dsimp only
      unfold law08_Classes_L3
      rw [Tr.run_br, if_neg (by simp), Tr.run_pure]
  · intro c hc
    simp only [tab, List.mem_map] at hc
    obtain ⟨i, _, rfl⟩ := hc
    omega

theorem ints_F (cs : List Int) (hn : cs.length ≤ 4194304) (h8 : ∀ n ∈ cs, 0 ≤ n ∧ n ≤ 255) : law10_Ints_F cs = some cs := by
  unfold law10_Ints_F law10_Ints_T
  have hl := loopW_count (f := fun s : List Int × List Int × Int × Int => (law10_Ints_L3 s.1 s.2.1 s.2.2.1 s.2.2.2).run) cs.length
    (fun k => (tab k (fun i => cs.getD i 0), cs, (cs.length : Int), (k : Int))) (r := tab cs.length (fun i => cs.getD i 0)) ?_ ?_
  · rw [show ((0 : Nat) : Int) = 0 from rfl, tab_zero] at hl
    rw [Tr.run_bnd_some hl, Tr.run_pure, ← tab_self]
  · intro k hk
    dsimp only
    unfold law10_Ints_L3
    have hm := h8 (cs.getD k 0) (by simp [List.getD, hk])
    rw [Tr.run_br, if_pos (by simp; omega), Tr.run_bnd_some (idx_getD 0 rfl hk), Tr.run_bnd_some (app_eq (by simp only [tab_len, List.length_cons, List.length_nil]; omega)), Tr.run_pure, wrap64 (n := cs.getD k 0) (by omega) (by omega),
      wrap64 (by omega) (by omega), tab_succ k (fun i => cs.getD i 0)]
    rfl
  · dsimp only
    unfold law10_Ints_L3
    rw [Tr.run_br, if_neg (by simp), Tr.run_pure]

theorem awake10 : law10_awake_F = some true := by
  unfold law10_awake_F law10_awake_T
  rw [Tr.run_bnd_some (first_F _ _ _ (by simp)), Tr.run_bnd_some (first_F _ _ _ (by simp)), Tr.run_bnd_some (first_F _ _ _ (by simp))]
  rfl

theorem baseFirst_true (ns : List Int) (inside : Bool) (other : Int) (hn : ns.length ≤ 2097152) (h8 : ∀ n ∈ ns, 0 ≤ n ∧ n ≤ 255) : law10_BaseFirst_F ns inside other = some true := by
  obtain ⟨cs, hc, hlen, _, hr⟩ := classes_F ns hn h8
  unfold law10_BaseFirst_F law10_BaseFirst_T
  rw [Tr.run_bnd_some awake10, Tr.run_br, if_neg (by simp), Tr.run_bnd_some hc, Tr.run_bnd_some (first_F _ _ _ (by omega)), Tr.run_bnd_some (ints_F cs (by omega) (fun n hn => by have := hr n hn; omega)), Tr.run_bnd_some (refFirst_F _ _ _ (by omega)), Tr.run_pure]
  simp

theorem baseFirst_all (x : Tys.I [.sl (.int .u8), .bool, .int .i64]) (h : WfAll [.sl (.int .u8), .bool, .int .i64] x) (hb : bulkAll [.sl (.int .u8), .bool, .int .i64] x ≤ 1048576) : law10_BaseFirst_F x.1 x.2.1 x.2.2.1 = some true := by
  simp only [bulkAll, bulk] at hb
  exact baseFirst_true _ _ _ (by omega) (fun n hn => wf_u8 (h.1.2 n hn))

end Go.Proofs.Ytfljkcfahhkfbaa
