/-
  The law of the next break and the last one returns true.
-/
import Derived.Test.YtenopbjggdhfgaaLawCluB
namespace Go.Proofs.Ytenopbjggdhfgaa
set_option linter.all false

theorem clusterMoves_F (bs : List Bool) (a : Int) (hn : bs.length ≤ 4194304) (ha : -9223372036854775808 ≤ a ∧ a ≤ 9223372036854775807) : law31_ClusterMoves_F bs a = some true := by
  unfold law31_ClusterMoves_F law31_ClusterMoves_T
  have hw : IntKind.i64.wrap ((bs.length : Int) - 1) = (bs.length : Int) - 1 := wrap64 (by omega) (by omega)
  rw [hw]
  obtain ⟨z, hz, nx, rfl, hnx⟩ := loop_ex (L := fun s : List Bool × Int × Int × Int × Int => law31_ClusterMoves_L5 s.1 s.2.1 s.2.2.1 s.2.2.2.1 s.2.2.2.2)
    (I := fun s => ∃ (i nx : Int), -1 ≤ i ∧ i < (bs.length : Int) ∧ s = (bs, a, nx, 0, i) ∧
      ((∃ j : Nat, nx = (j : Int) ∧ i < (j : Int) ∧ j < bs.length ∧ a < (j : Int) ∧ bs.getD j false = true ∧ ∀ k : Nat, i < (k : Int) → k < j → a < (k : Int) → bs.getD k false = false) ∨
       (nx = (bs.length : Int) - (if bs.length = 0 then 0 else 1) ∧ ∀ k : Nat, i < (k : Int) → k < bs.length → a < (k : Int) → bs.getD k false = false)))
    (m := fun s => (s.2.2.2.2 + 1).toNat) (R := fun z => ∃ nx, z = (bs, a, nx, 0) ∧ IsNext bs a nx) (s0 := (bs, a, if (bs.length : Int) - 1 > 0 then (bs.length : Int) - 1 else 0, 0, (bs.length : Int) - 1))
    (by
      rintro s ⟨i, nx, h1, h2, rfl, h3⟩
      dsimp only
      unfold law31_ClusterMoves_L5
      refine Post.br (fun hc => ?_) (fun hc => Post.pure ?_)
      · rw [decide_eq_true_eq] at hc
        obtain ⟨j, hj⟩ : ∃ j : Nat, i = (j : Int) := ⟨i.toNat, by omega⟩
        subst hj
        rw [wrap64 (n := (j : Int) - 1) (by omega) (by omega)]
        have keep : (bs.getD j false = false ∨ ¬ a < (j : Int)) → ((∃ q : Nat, nx = (q : Int) ∧ (j : Int) - 1 < (q : Int) ∧ q < bs.length ∧ a < (q : Int) ∧ bs.getD q false = true ∧ ∀ k : Nat, (j : Int) - 1 < (k : Int) → k < q → a < (k : Int) → bs.getD k false = false) ∨
            (nx = (bs.length : Int) - (if bs.length = 0 then 0 else 1) ∧ ∀ k : Nat, (j : Int) - 1 < (k : Int) → k < bs.length → a < (k : Int) → bs.getD k false = false)) := fun hno => by
          have at_j : ∀ k : Nat, (j : Int) - 1 < (k : Int) → a < (k : Int) → ((j : Int) < (k : Int) → bs.getD k false = false) → bs.getD k false = false := fun k hk hak h => by
            by_cases e : k = j
            · subst e
              rcases hno with h | h
              · exact h
              · exact absurd hak h
            · exact h (by omega)
          rcases h3 with ⟨q, e, g1, g2, g3, g4, g5⟩ | ⟨e, g5⟩
          · exact .inl ⟨q, e, by omega, g2, g3, g4, fun k hk hkq hak => at_j k hk hak fun h => g5 k h hkq hak⟩
          · exact .inr ⟨e, fun k hk hkl hak => at_j k hk hak fun h => g5 k h hkl hak⟩
        refine Post.idx false j rfl (by omega) (Post.br (fun hb => Post.br (fun hd => Post.pure ?_) (fun hd => Post.pure ?_)) (fun hb => Post.pure ?_))
        · rw [decide_eq_true_eq] at hd
          exact ⟨⟨_, _, by omega, by omega, rfl, .inl ⟨j, rfl, by omega, by omega, hd, hb, fun k hk hkj _ => by omega⟩⟩, by dsimp only; omega⟩
        · rw [decide_eq_false_iff_not] at hd
          exact ⟨⟨_, _, by omega, by omega, rfl, keep (.inr (by omega))⟩, by dsimp only; omega⟩
        · exact ⟨⟨_, _, by omega, by omega, rfl, keep (.inl (by simpa using hb))⟩, by dsimp only; omega⟩
      · rw [decide_eq_false_iff_not] at hc
        have hi : i = -1 := by omega
        subst hi
        refine ⟨nx, rfl, ?_⟩
        rcases h3 with ⟨q, e, g1, g2, g3, g4, g5⟩ | ⟨e, g5⟩
        · exact .inl ⟨q, e, g2, g3, g4, fun k hk hak => g5 k (by omega) hk hak⟩
        · exact .inr ⟨e, fun k hk hak => g5 k (by omega) hk hak⟩)
    (by
      refine ⟨_, _, by omega, by omega, rfl, .inr ⟨?_, fun k hk hkl _ => by omega⟩⟩
      split <;> split <;> omega)
  obtain ⟨y, hy, pv, rfl, hpv⟩ := loop_ex (L := fun s : List Bool × Int × Int × Int × Int => law31_ClusterMoves_L10 s.1 s.2.1 s.2.2.1 s.2.2.2.1 s.2.2.2.2)
    (I := fun s => ∃ (i : Nat) (pv : Int), 1 ≤ i ∧ s = (bs, a, nx, pv, (i : Int)) ∧
      ((∃ j : Nat, pv = (j : Int) ∧ 0 < j ∧ j < i ∧ j < bs.length ∧ (j : Int) < a ∧ bs.getD j false = true ∧ ∀ k : Nat, j < k → k < i → k < bs.length → (k : Int) < a → bs.getD k false = false) ∨
       (pv = 0 ∧ ∀ k : Nat, 0 < k → k < i → k < bs.length → (k : Int) < a → bs.getD k false = false)))
    (m := fun s => bs.length - s.2.2.2.2.toNat) (R := fun z => ∃ pv, z = (bs, a, nx, pv) ∧ IsPrev bs a pv) (s0 := (bs, a, nx, 0, 1))
    (by
      rintro s ⟨i, pv, h1, rfl, h3⟩
      dsimp only
      unfold law31_ClusterMoves_L10
      refine Post.br (fun hc => ?_) (fun hc => Post.pure ?_)
      · rw [decide_eq_true_eq] at hc
        rw [wrap64 (n := (i : Int) + 1) (by omega) (by omega), show (i : Int) + 1 = ((i + 1 : Nat) : Int) by omega]
        have keep : (bs.getD i false = false ∨ ¬ (i : Int) < a) → ((∃ j : Nat, pv = (j : Int) ∧ 0 < j ∧ j < i + 1 ∧ j < bs.length ∧ (j : Int) < a ∧ bs.getD j false = true ∧ ∀ k : Nat, j < k → k < i + 1 → k < bs.length → (k : Int) < a → bs.getD k false = false) ∨
            (pv = 0 ∧ ∀ k : Nat, 0 < k → k < i + 1 → k < bs.length → (k : Int) < a → bs.getD k false = false)) := fun hno => by
          have at_i : ∀ k : Nat, k < i + 1 → (k : Int) < a → (k < i → bs.getD k false = false) → bs.getD k false = false := fun k hk hka h => by
            by_cases e : k = i
            · subst e
              rcases hno with h | h
              · exact h
              · exact absurd hka h
            · exact h (by omega)
          rcases h3 with ⟨q, e, g0, g1, g2, g3, g4, g5⟩ | ⟨e, g5⟩
          · exact .inl ⟨q, e, g0, by omega, g2, g3, g4, fun k hk hki hkl hka => at_i k hki hka fun h => g5 k hk h hkl hka⟩
          · exact .inr ⟨e, fun k hk hki hkl hka => at_i k hki hka fun h => g5 k hk h hkl hka⟩
        refine Post.idx false i rfl (by omega) (Post.br (fun hb => Post.br (fun hd => Post.pure ?_) (fun hd => Post.pure ?_)) (fun hb => Post.pure ?_))
        · rw [decide_eq_true_eq] at hd
          exact ⟨⟨i + 1, _, by omega, rfl, .inl ⟨i, rfl, by omega, by omega, by omega, hd, hb, fun k hk hki _ _ => by omega⟩⟩, by dsimp only; omega⟩
        · rw [decide_eq_false_iff_not] at hd
          exact ⟨⟨i + 1, _, by omega, rfl, keep (.inr hd)⟩, by dsimp only; omega⟩
        · exact ⟨⟨i + 1, _, by omega, rfl, keep (.inl (by simpa using hb))⟩, by dsimp only; omega⟩
      · rw [decide_eq_false_iff_not] at hc
        refine ⟨pv, rfl, ?_⟩
        rcases h3 with ⟨q, e, g0, g1, g2, g3, g4, g5⟩ | ⟨e, g5⟩
        · exact .inl ⟨q, e, g0, g2, g3, g4, fun k hk hkl hka => g5 k hk (by omega) hkl hka⟩
        · exact .inr ⟨e, fun k hk hkl hka => g5 k hk (by omega) hkl hka⟩)
    ⟨1, 0, by omega, rfl, .inr ⟨rfl, fun k hk hk1 => by omega⟩⟩
  obtain ⟨v, hv, hvn⟩ := next_F bs a hn ha
  obtain ⟨u, hu, hup⟩ := prev_F bs a hn ha
  have e1 := hvn.uniq hnx
  have e2 := hup.uniq hpv
  subst e1; subst e2
  refine Post.run (Post.bnd awake31 (Post.brF rfl (Post.bnd hz (Post.bnd hy (Post.bnd hv (Post.brT (by simp) (Post.bnd hu (Post.pure (by simp)))))))))

theorem clusterMoves_all (x : Tys.I [.sl .bool, .int .i64]) (h : WfAll [.sl .bool, .int .i64] x) (hb : bulkAll [.sl .bool, .int .i64] x ≤ 1048576) : law31_ClusterMoves_F x.1 x.2.1 = some true := by
  simp only [bulkAll, bulk] at hb
  exact clusterMoves_F _ _ (by omega) (wf_i64 h.2.1)

end Go.Proofs.Ytenopbjggdhfgaa
