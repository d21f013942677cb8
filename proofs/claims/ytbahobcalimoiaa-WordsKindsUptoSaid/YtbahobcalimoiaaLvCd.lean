/-
  Parts of elder texts, cut out for the levels.
-/
import Derived.Test.YtbahobcalimoiaaLvCl
namespace Go.Proofs.Ytbahobcalimoiaa
set_option linter.all false
def Chain (B : List Bool) : Nat → List (Int × Int) → Nat → Prop
  | a, [], b => a = b
  | a, p :: l, b => p.1 = (a : Int) ∧ ∃ c : Nat, p.2 = (c : Int) ∧ a < c ∧ c < B.length ∧ B.getD c false = true ∧ (∀ j, a < j → j < c → B.getD j false = false) ∧ Chain B c l b
theorem Chain.snoc {B : List Bool} {b c : Nat} (h1 : b < c) (h2 : c < B.length) (h3 : B.getD c false = true) (h4 : ∀ j, b < j → j < c → B.getD j false = false) : ∀ {l : List (Int × Int)} {a : Nat}, Chain B a l b → Chain B a (l ++ [((b : Int), (c : Int))]) c
  | [], a, h => by
    have h : a = b := h
    subst h
    exact ⟨rfl, c, rfl, h1, h2, h3, h4, rfl⟩
  | p :: l, a, h => by
    obtain ⟨e, d, e2, g1, g2, g3, g4, g5⟩ := h
    exact ⟨e, d, e2, g1, g2, g3, g4, Chain.snoc h1 h2 h3 h4 g5⟩
theorem Chain.len {B : List Bool} : ∀ {l : List (Int × Int)} {a b : Nat}, Chain B a l b → a + l.length ≤ b
  | [], a, b, h => by
    have h : a = b := h
    simp [h]
  | p :: l, a, b, h => by
    obtain ⟨_, d, _, g1, _, _, _, g5⟩ := h
    have := g5.len
    simp only [List.length_cons]
    omega
theorem Chain.le {B : List Bool} : ∀ {l : List (Int × Int)} {a b : Nat}, Chain B a l b → a ≤ b := fun h => by have := h.len; omega
theorem clBreaks_len (rs : List Int) : (clBreaks rs).length = rs.length + 1 := clAt_len rs _
theorem clBreaks_first (rs : List Int) : (clBreaks rs).getD 0 false = true := by
  have h := clAt_keeps rs 0 (.inl rfl) (by omega) rs.length (by omega)
  unfold clBreaks
  simp only [List.getD, h]
  rfl
theorem clBreaks_last (rs : List Int) : (clBreaks rs).getD rs.length false = true := by
  have h := clAt_keeps rs rs.length (.inr (Nat.le_refl _)) (by omega) rs.length (by omega)
  unfold clBreaks
  simp only [List.getD, h]
  rfl
theorem of_F (rs : List Int) (hn : rs.length ≤ 8388607) : ∃ l, cluster_Of_F rs = some l ∧ Chain (clBreaks rs) 0 l rs.length := by
  unfold cluster_Of_F cluster_Of_T
  have hB := clBreaks_len rs
  have hB0 := clBreaks_first rs
  have hBn := clBreaks_last rs
  have hb := breaks_F rs (by omega)
  generalize clBreaks rs = B at *
  obtain ⟨z, hz, h⟩ := loop_ex (L := fun s : (List (Int × Int)) × Int × List Bool × Int × Int => cluster_Of_L4 s.1 s.2.1 s.2.2.1 s.2.2.2.1 s.2.2.2.2)
    (I := fun s => ∃ (l : List (Int × Int)) (f k : Nat), f ≤ k ∧ k ≤ B.length ∧ f < B.length ∧ s = (l, (f : Int), B, (B.length : Int), (k : Int)) ∧ Chain B 0 l f ∧ ∀ j, f < j → j < k → B.getD j false = false)
    (m := fun s => B.length - s.2.2.2.2.toNat) (R := fun z => Chain B 0 z rs.length) (s0 := ([], 0, B, (B.length : Int), 0))
    (by
      rintro s ⟨l, f, k, h1, h2, h0, rfl, h3, h4⟩
      dsimp only
      unfold cluster_Of_L4
      have hll := h3.len
      refine Post.br (fun hc => ?_) (fun hc => Post.pure ?_)
      · rw [decide_eq_true_eq] at hc
        rw [wrap_succ' (by omega)]
        have stay : B.getD k false = false ∨ k = f → ∀ j, f < j → j < k + 1 → B.getD j false = false := fun h j hj1 hj2 => by
          by_cases e : j = k
          · subst e
            rcases h with h | h
            · exact h
            · omega
          · exact h4 j hj1 (by omega)
        refine Post.idx false k rfl (by omega) (Post.br (fun hb => Post.br (fun hd => ?_) (fun hd => Post.pure ?_)) (fun hb => Post.pure ?_))
        · rw [decide_eq_true_eq] at hd
          refine Post.bnd (app_eq (by simp only [List.length_cons, List.length_nil]; omega)) (Post.pure ?_)
          exact ⟨⟨_, k, k + 1, by omega, by omega, by omega, rfl, h3.snoc (by omega) (by omega) hb h4, fun j hj1 hj2 => by omega⟩, by dsimp only; omega⟩
        · rw [decide_eq_false_iff_not] at hd
          exact ⟨⟨l, f, k + 1, by omega, by omega, h0, rfl, h3, stay (.inr (by omega))⟩, by dsimp only; omega⟩
        · exact ⟨⟨l, f, k + 1, by omega, by omega, h0, rfl, h3, stay (.inl (by simpa using hb))⟩, by dsimp only; omega⟩
      · rw [decide_eq_false_iff_not] at hc
        have hf : f = rs.length := by
          by_cases e : f = rs.length
          · exact e
          · rw [h4 rs.length (by omega) (by omega)] at hBn
            cases hBn
        rw [← hf]
        exact h3)
    ⟨[], 0, 0, by omega, by omega, by omega, rfl, rfl, fun j h1 h2 => by omega⟩
  exact ⟨z, Post.run (Post.bnd hb (Post.bnd hz (Post.pure rfl))), h⟩

end Go.Proofs.Ytbahobcalimoiaa
