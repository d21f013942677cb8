/-
  Parts of elder texts, cut out for the levels.
-/
import Derived.Test.YtenbhmjcoljddaaDoorLvE
namespace Go.Proofs.YtenbhmjcoljddaaDoor.Ex
set_option linter.all false
theorem base_strong (c : Int) : base_strong_F c = some (if c = 0 then 0 else 1) := by
  unfold base_strong_F base_strong_T
  rw [Tr.run_br]
  by_cases h : c = 0
  · simp [h, Tr.run_pure]
  · simp [h, Tr.run_pure]
theorem first_F (cs : List Int) (inside : Bool) (other : Int) (hn : cs.length ≤ 4194304) : base_First_F cs inside other = some (first inside other cs 0) := by
  unfold base_First_F base_First_T
  refine Exists.elim (loopW_rule (f := fun s : Bool × Int × Int × List Int × Int × Int => (base_First_L3 s.1 s.2.1 s.2.2.1 s.2.2.2.1 s.2.2.2.2.1 s.2.2.2.2.2).run)
    (fun s => ∃ k d : Nat, k ≤ cs.length ∧ d ≤ k ∧ s = (inside, other, (d : Int), cs, (cs.length : Int), (k : Int)) ∧ first inside other cs 0 = first inside other (cs.drop k) d)
    (fun s => cs.length - s.2.2.2.2.2.toNat)
    (fun r => r = .inl (first inside other cs 0) ∨ r = .inr (first inside other cs 0)) ?_ (inside, other, 0, cs, (cs.length : Int), 0) ⟨0, 0, by omega, by omega, rfl, rfl⟩) (fun r hr => ?_)
  · rintro s ⟨k, d, hk, hd, rfl, hf⟩
    dsimp only
    unfold base_First_L3
    rw [Tr.run_br]
    by_cases e : k = cs.length
    · right
      subst e
      rw [if_neg (by simp), Tr.run_pure]
      refine ⟨_, rfl, .inl ?_⟩
      rw [hf]
      simp [first]
    · have hk' : k < cs.length := by omega
      rw [drop_cons hk'] at hf
      generalize hc : cs.getD k 0 = c at hf
      have nx : ∀ d' : Nat, d' ≤ k + 1 → first inside other cs 0 = first inside other (cs.drop (k + 1)) d' → ∃ s', (Tr.pure (Lap.next (inside, other, (d' : Int), cs, (cs.length : Int), (k : Int) + 1)) : Tr (Lap (Bool × Int × Int × List Int × Int × Int) (Sum Int Int))).run = some (.next s') ∧
          (∃ k d : Nat, k ≤ cs.length ∧ d ≤ k ∧ s' = (inside, other, (d : Int), cs, (cs.length : Int), (k : Int)) ∧ first inside other cs 0 = first inside other (cs.drop k) d) ∧ cs.length - s'.2.2.2.2.2.toNat < cs.length - (k : Int).toNat := by
        intro d' h1 h2
        refine ⟨_, rfl, ⟨k + 1, d', by omega, h1, rfl, h2⟩, ?_⟩
        dsimp only
        omega
      rw [if_pos (by simp; omega), Tr.run_bnd_some (idx_getD 0 rfl hk'), hc, Tr.run_bnd_some (isolate_F c), Tr.run_br, wrap64 (n := (k : Int) + 1) (by omega) (by omega), wrap64 (n := (d : Int) + 1) (by omega) (by omega), wrap64 (n := (d : Int) - 1) (by omega) (by omega)]
      rw [first_cons] at hf
      by_cases h1 : iso c = true
      · left
        rw [if_pos h1] at hf ⊢
        exact nx (d + 1) (by omega) hf
      · have tail : ∀ (hd0 : ¬ (c = 22 ∧ 0 < d)) (hin : ¬ (c = 22 ∧ inside = true)), (∃ s', (Tr.bnd (bidic_Strong_F c) fun c_9 => Tr.br c_9 (Tr.br ((d : Int) == 0) (Tr.bnd (base_strong_F c) fun c_10 => Tr.pure (Lap.done (Sum.inr c_10)))
              (Tr.pure (Lap.next (inside, other, (d : Int), cs, (cs.length : Int), (k : Int) + 1)))) (Tr.pure (Lap.next (inside, other, (d : Int), cs, (cs.length : Int), (k : Int) + 1))) : Tr (Lap (Bool × Int × Int × List Int × Int × Int) (Sum Int Int))).run = some (.next s') ∧
            (∃ k d : Nat, k ≤ cs.length ∧ d ≤ k ∧ s' = (inside, other, (d : Int), cs, (cs.length : Int), (k : Int)) ∧ first inside other cs 0 = first inside other (cs.drop k) d) ∧ cs.length - s'.2.2.2.2.2.toNat < cs.length - (k : Int).toNat) ∨
            (∃ r, (Tr.bnd (bidic_Strong_F c) fun c_9 => Tr.br c_9 (Tr.br ((d : Int) == 0) (Tr.bnd (base_strong_F c) fun c_10 => Tr.pure (Lap.done (Sum.inr c_10)))
              (Tr.pure (Lap.next (inside, other, (d : Int), cs, (cs.length : Int), (k : Int) + 1)))) (Tr.pure (Lap.next (inside, other, (d : Int), cs, (cs.length : Int), (k : Int) + 1))) : Tr (Lap (Bool × Int × Int × List Int × Int × Int) (Sum Int Int))).run = some (.done r) ∧
            (r = .inl (first inside other cs 0) ∨ r = .inr (first inside other cs 0))) := by
          intro hd0 hin
          rw [if_neg h1, if_neg hd0, if_neg hin] at hf
          rw [Tr.run_bnd_some (strong_F c), Tr.run_br]
          by_cases h4 : strong c = true
          · rw [if_pos h4, Tr.run_br]
            by_cases h5 : d = 0
            · right
              subst h5
              rw [if_pos (by simp), Tr.run_bnd_some (base_strong c), Tr.run_pure]
              rw [if_pos ⟨h4, rfl⟩] at hf
              exact ⟨_, rfl, .inr (by rw [hf])⟩
            · left
              rw [if_neg (by simp; omega)]
              rw [if_neg (fun h => h5 h.2)] at hf
              exact nx d (by omega) hf
          · left
            rw [if_neg h4]
            rw [if_neg (fun h => h4 h.1)] at hf
            exact nx d (by omega) hf
        rw [if_neg h1, Tr.run_br]
        by_cases h2 : c = 22
        · rw [if_pos (by simpa using h2), Tr.run_br]
          by_cases h3 : 0 < d
          · left
            rw [if_pos (by simp; omega)]
            rw [if_neg h1, if_pos ⟨h2, h3⟩] at hf
            have := nx (d - 1) (by omega) hf
            rw [show ((d - 1 : Nat) : Int) = (d : Int) - 1 by omega] at this
            exact this
          · rw [if_neg (by simp; omega), Tr.run_br, if_pos (by simpa using h2), Tr.run_br]
            by_cases h6 : inside = true
            · right
              rw [if_pos h6, Tr.run_pure]
              rw [if_neg h1, if_neg (fun h => h3 h.2), if_pos ⟨h2, h6⟩] at hf
              exact ⟨_, rfl, .inr (by rw [hf])⟩
            · rw [if_neg h6]
              exact tail (fun h => h3 h.2) (fun h => h6 h.2)
        · rw [if_neg (by simpa using h2), Tr.run_br, if_neg (by simpa using h2)]
          exact tail (fun h => h2 h.1) (fun h => h2 h.1)
  · obtain ⟨hl, rfl | rfl⟩ := hr
    · rw [Tr.run_alt_inl hl]; rfl
    · rw [Tr.run_alt_inr hl]; rfl
theorem level_F (cs : List Int) (hn : cs.length ≤ 4194304) (d : Int) : base_Level_F cs d = some (if d = 0 then (first false 0 cs 0, none) else if d = 1 then (0, none) else if d = 2 then (1, none) else (0, some (3, ByteArray.mk #[100, 105, 114, 101, 99, 116, 105, 111, 110], d))) := by
  unfold base_Level_F base_Level_T
  refine Post.run ?_
  by_cases h0 : d = 0
  · rw [if_pos h0]
    exact Post.brT (beq_iff_eq.2 h0) (Post.bnd (first_F _ _ _ hn) (Post.pure rfl))
  · rw [if_neg h0]
    refine Post.brF (beq_eq_false_iff_ne.2 h0) ?_
    by_cases h1 : d = 1
    · rw [if_pos h1]
      exact Post.brT (beq_iff_eq.2 h1) (Post.pure rfl)
    · rw [if_neg h1]
      refine Post.brF (beq_eq_false_iff_ne.2 h1) ?_
      by_cases h2 : d = 2
      · rw [if_pos h2]
        exact Post.brT (beq_iff_eq.2 h2) (Post.pure rfl)
      · rw [if_neg h2]
        exact Post.brF (beq_eq_false_iff_ne.2 h2) (Post.bnd (b := some (3, ByteArray.mk #[100, 105, 114, 101, 99, 116, 105, 111, 110], d)) rfl (Post.pure rfl))

end Go.Proofs.YtenbhmjcoljddaaDoor.Ex
