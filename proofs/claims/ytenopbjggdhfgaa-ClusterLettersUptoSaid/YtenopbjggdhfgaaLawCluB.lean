/-
  The next break and the last one of a place; the law of them returns true.
-/
import Derived.Test.YtenopbjggdhfgaaLawClu
namespace Go.Proofs.Ytenopbjggdhfgaa
set_option linter.all false

/-- the first break behind a place; the last place, if there is none -/
def IsNext (bs : List Bool) (at_ v : Int) : Prop :=
  (∃ j : Nat, v = (j : Int) ∧ j < bs.length ∧ at_ < (j : Int) ∧ bs.getD j false = true ∧ ∀ k : Nat, k < j → at_ < (k : Int) → bs.getD k false = false) ∨
  (v = (bs.length : Int) - (if bs.length = 0 then 0 else 1) ∧ ∀ k : Nat, k < bs.length → at_ < (k : Int) → bs.getD k false = false)
theorem IsNext.uniq {bs : List Bool} {a v w : Int} (h : IsNext bs a v) (g : IsNext bs a w) : v = w := by
  rcases h with ⟨j, rfl, h1, h2, h3, h4⟩ | ⟨rfl, h4⟩
  · rcases g with ⟨i, rfl, g1, g2, g3, g4⟩ | ⟨rfl, g4⟩
    · rcases Nat.lt_trichotomy i j with l | l | l
      · rw [h4 i l g2] at g3; cases g3
      · rw [l]
      · rw [g4 j l h2] at h3; cases h3
    · rw [g4 j h1 h2] at h3; cases h3
  · rcases g with ⟨i, rfl, g1, g2, g3, g4⟩ | ⟨rfl, g4⟩
    · rw [h4 i g1 g2] at g3; cases g3
    · rfl
/-- the last break ahead of a place, the first one aside; 0, if there is none -/
def IsPrev (bs : List Bool) (at_ v : Int) : Prop :=
  (∃ j : Nat, v = (j : Int) ∧ 0 < j ∧ j < bs.length ∧ (j : Int) < at_ ∧ bs.getD j false = true ∧ ∀ k : Nat, j < k → k < bs.length → (k : Int) < at_ → bs.getD k false = false) ∨
  (v = 0 ∧ ∀ k : Nat, 0 < k → k < bs.length → (k : Int) < at_ → bs.getD k false = false)
theorem IsPrev.uniq {bs : List Bool} {a v w : Int} (h : IsPrev bs a v) (g : IsPrev bs a w) : v = w := by
  rcases h with ⟨j, rfl, h0, h1, h2, h3, h4⟩ | ⟨rfl, h4⟩
  · rcases g with ⟨i, rfl, g0, g1, g2, g3, g4⟩ | ⟨rfl, g4⟩
    · rcases Nat.lt_trichotomy i j with l | l | l
      · rw [g4 j l h1 h2] at h3; cases h3
      · rw [l]
      · rw [h4 i l g1 g2] at g3; cases g3
    · rw [g4 j h0 h1 h2] at h3; cases h3
  · rcases g with ⟨i, rfl, g0, g1, g2, g3, g4⟩ | ⟨rfl, g4⟩
    · rw [h4 i g0 g1 g2] at g3; cases g3
    · rfl

theorem next_F (bs : List Bool) (a : Int) (hn : bs.length ≤ 4194304) (ha : -9223372036854775808 ≤ a ∧ a ≤ 9223372036854775807) : ∃ v, cluster_Next_F bs a = some v ∧ IsNext bs a v := by
  unfold cluster_Next_F cluster_Next_T
  have hw : IntKind.i64.wrap ((bs.length : Int) - 1) = (bs.length : Int) - 1 := wrap64 (by omega) (by omega)
  obtain ⟨z, hz, h⟩ := loop_ex (L := fun s : List Bool × Int => cluster_Next_L2 s.1 s.2)
    (I := fun s => ∃ i : Int, -1 ≤ i ∧ a ≤ i ∧ s = (bs, i) ∧ ∀ k : Nat, (k : Int) ≤ i → a < (k : Int) → k < bs.length → bs.getD k false = false)
    (m := fun s => ((bs.length : Int) - s.2).toNat) (R := fun z => (z = .inl bs ∧ IsNext bs a ((bs.length : Int) - (if bs.length = 0 then 0 else 1))) ∨ ∃ v, z = .inr v ∧ IsNext bs a v) (s0 := (bs, if (-1) > a then (-1) else a))
    (by
      rintro s ⟨i, h1, h2, rfl, h3⟩
      dsimp only
      unfold cluster_Next_L2
      rw [hw]
      refine Post.br (fun hc => ?_) (fun hc => Post.pure (.inl ⟨rfl, .inr ⟨rfl, fun k hk hak => ?_⟩⟩))
      · rw [decide_eq_true_eq] at hc
        obtain ⟨j, hj⟩ : ∃ j : Nat, i + 1 = (j : Int) := ⟨(i + 1).toNat, by omega⟩
        rw [wrap64 (n := i + 1) (by omega) (by omega), hj]
        refine Post.idx false j rfl (by omega) (Post.br (fun hb => Post.pure (.inr ⟨_, rfl, .inl ⟨j, rfl, by omega, by omega, hb, fun k hk hak => h3 k (by omega) hak (by omega)⟩⟩)) (fun hb => Post.pure ?_))
        refine ⟨⟨(j : Int), by omega, by omega, rfl, fun k hk hak hkl => ?_⟩, by omega⟩
        by_cases e : k = j
        · subst e; simpa using hb
        · exact h3 k (by omega) hak hkl
      · rw [decide_eq_false_iff_not] at hc
        exact h3 k (by omega) hak hk)
    (by
      refine ⟨if (-1) > a then (-1) else a, by split <;> omega, by split <;> omega, rfl, fun k hk hak => ?_⟩
      split at hk <;> omega)
  rcases h with ⟨rfl, h⟩ | ⟨v, rfl, h⟩
  · refine ⟨_, Post.run (Post.altL hz (Post.pure rfl)), ?_⟩
    rw [hw]
    have e : (if (0 : Int) > (bs.length : Int) - 1 then 0 else (bs.length : Int) - 1) = (bs.length : Int) - (if bs.length = 0 then 0 else 1) := by
      split <;> split <;> omega
    rw [e]
    exact h
  · exact ⟨v, Post.run (Post.altR hz (Post.pure rfl)), h⟩

theorem prev_F (bs : List Bool) (a : Int) (hn : bs.length ≤ 4194304) (ha : -9223372036854775808 ≤ a ∧ a ≤ 9223372036854775807) : ∃ v, cluster_Prev_F bs a = some v ∧ IsPrev bs a v := by
  unfold cluster_Prev_F cluster_Prev_T
  obtain ⟨z, hz, h⟩ := loop_ex (L := fun s : List Bool × Int => cluster_Prev_L2 s.1 s.2)
    (I := fun s => ∃ i : Int, -1 ≤ i ∧ i < (bs.length : Int) ∧ (i < a ∨ i ≤ 0) ∧ s = (bs, i) ∧ ∀ k : Nat, i < (k : Int) → (k : Int) < a → 0 < k → k < bs.length → bs.getD k false = false)
    (m := fun s => (s.2 + 1).toNat) (R := fun z => (z = .inl () ∧ IsPrev bs a 0) ∨ ∃ v, z = .inr v ∧ IsPrev bs a v) (s0 := (bs, IntKind.i64.wrap ((if (bs.length : Int) < (if 0 > a then 0 else a) then (bs.length : Int) else (if 0 > a then 0 else a)) - 1)))
    (by
      rintro s ⟨i, h1, h2, h3, rfl, h4⟩
      dsimp only
      unfold cluster_Prev_L2
      refine Post.br (fun hc => ?_) (fun hc => Post.pure (.inl ⟨rfl, .inr ⟨rfl, fun k hk hkl hka => ?_⟩⟩))
      · rw [decide_eq_true_eq] at hc
        obtain ⟨j, hj⟩ : ∃ j : Nat, i = (j : Int) := ⟨i.toNat, by omega⟩
        subst hj
        refine Post.idx false j rfl (by omega) (Post.br (fun hb => Post.pure (.inr ⟨_, rfl, .inl ⟨j, rfl, by omega, by omega, by omega, hb, fun k hk hkl hka => h4 k (by omega) hka (by omega) hkl⟩⟩)) (fun hb => Post.pure ?_))
        rw [wrap64 (by omega) (by omega)]
        refine ⟨⟨(j : Int) - 1, by omega, by omega, by omega, rfl, fun k hk hka hk0 hkl => ?_⟩, by omega⟩
        by_cases e : k = j
        · subst e; simpa using hb
        · exact h4 k (by omega) hka hk0 hkl
      · rw [decide_eq_false_iff_not] at hc
        exact h4 k (by omega) hka hk hkl)
    (by
      rw [wrap64 (by split <;> split <;> omega) (by split <;> split <;> omega)]
      refine ⟨_, ?_, ?_, ?_, rfl, fun k hk hka hk0 hkl => ?_⟩
      · split <;> split <;> omega
      · split <;> split <;> omega
      · split <;> split <;> omega
      · split at hk <;> split at hk <;> omega)
  rcases h with ⟨rfl, h⟩ | ⟨v, rfl, h⟩
  · exact ⟨_, Post.run (Post.altL hz (Post.pure rfl)), h⟩
  · exact ⟨v, Post.run (Post.altR hz (Post.pure rfl)), h⟩

end Go.Proofs.Ytenopbjggdhfgaa
