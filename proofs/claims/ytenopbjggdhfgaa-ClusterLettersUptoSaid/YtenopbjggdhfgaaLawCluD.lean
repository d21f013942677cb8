/-
  Clusters follow one another; two laws of them return true.
-/
import Derived.Test.YtenopbjggdhfgaaLawCluC
namespace Go.Proofs.Ytenopbjggdhfgaa
set_option linter.all false

/-- spans between the breaks, one behind the other -/
def Chain (B : List Bool) : Nat → List (Int × Int) → Nat → Prop
  | a, [], b => a = b
  | a, p :: l, b => p.1 = (a : Int) ∧ ∃ c : Nat, p.2 = (c : Int) ∧ a < c ∧ c < B.length ∧ B.getD c false = true ∧ (∀ j, a < j → j < c → B.getD j false = false) ∧ Chain B c l b
theorem Chain.snoc {B : List Bool} {b c : Nat} (h1 : b < c) (h2 : c < B.length) (h3 : B.getD c false = true) (h4 : ∀ j, b < j → j < c → B.getD j false = false) : ∀ {l : List (Int × Int)} {a : Nat}, Chain B a l b → Chain B a (l ++ [((b : Int), (c : Int))]) c
  | [], a, h => by
    have h : a = b := h
    subst h
    exact ⟨rfl, c, rfl, h1, h2, h3, h4, rfl⟩
  | p :: l, a, h => by
    obtain ⟨e, d, e2, g1, g2, g3, g4, g5⟩ := h
    exact ⟨e, d, e2, g1, g2, g3, g4, Chain.snoc h1 h2 h3 h4 g5⟩
theorem Chain.len {B : List Bool} : ∀ {l : List (Int × Int)} {a b : Nat}, Chain B a l b → a + l.length ≤ b
  | [], a, b, h => by
    have h : a = b := h
    simp [h]
  | p :: l, a, b, h => by
    obtain ⟨_, d, _, g1, _, _, _, g5⟩ := h
    have := g5.len
    simp only [List.length_cons]
    omega
theorem Chain.le {B : List Bool} : ∀ {l : List (Int × Int)} {a b : Nat}, Chain B a l b → a ≤ b := fun h => by have := h.len; omega

theorem clBreaks_len (rs : List Int) : (clBreaks rs).length = rs.length + 1 := clAt_len rs _
theorem clBreaks_first (rs : List Int) : (clBreaks rs).getD 0 false = true := by
  have h := clAt_keeps rs 0 (.inl rfl) (by omega) rs.length (by omega)
  unfold clBreaks
  simp only [List.getD, h]
  rfl
theorem clBreaks_last (rs : List Int) : (clBreaks rs).getD rs.length false = true := by
  have h := clAt_keeps rs rs.length (.inr (Nat.le_refl _)) (by omega) rs.length (by omega)
  unfold clBreaks
  simp only [List.getD, h]
  rfl

theorem of_F (rs : List Int) (hn : rs.length ≤ 4194304) : ∃ l, cluster_Of_F rs = some l ∧ Chain (clBreaks rs) 0 l rs.length := by
  unfold cluster_Of_F cluster_Of_T
  have hB := clBreaks_len rs
  have hB0 := clBreaks_first rs
  have hBn := clBreaks_last rs
  have hb := breaks_F rs (by omega)
  generalize clBreaks rs = B at *
  obtain ⟨z, hz, h⟩ := loop_ex (L := fun s : (List (Int × Int)) × Int × List Bool × Int × Int => cluster_Of_L4 s.1 s.2.1 s.2.2.1 s.2.2.2.1 s.2.2.2.2)
    (I := fun s => ∃ (l : List (Int × Int)) (f k : Nat), f ≤ k ∧ k ≤ B.length ∧ f < B.length ∧ s = (l, (f : Int), B, (B.length : Int), (k : Int)) ∧ Chain B 0 l f ∧ ∀ j, f < j → j < k → B.getD j false = false)
    (m := fun s => B.length - s.2.2.2.2.toNat) (R := fun z => Chain B 0 z rs.length) (s0 := ([], 0, B, (B.length : Int), 0))
    (by
      rintro s ⟨l, f, k, h1, h2, h0, rfl, h3, h4⟩
      dsimp only
      unfold cluster_Of_L4
      have hll := h3.len
      refine Post.br (fun hc => ?_) (fun hc => Post.pure ?_)
      · rw [decide_eq_true_eq] at hc
        rw [wrap_succ' (by omega)]
        have stay : B.getD k false = false ∨ k = f → ∀ j, f < j → j < k + 1 → B.getD j false = false := fun h j hj1 hj2 => by
          by_cases e : j = k
          · subst e
            rcases h with h | h
            · exact h
            · omega
          · exact h4 j hj1 (by omega)
        refine Post.idx false k rfl (by omega) (Post.br (fun hb => Post.br (fun hd => ?_) (fun hd => Post.pure ?_)) (fun hb => Post.pure ?_))
        · rw [decide_eq_true_eq] at hd
          refine Post.bnd (app_eq (by simp only [List.length_cons, List.length_nil]; omega)) (Post.pure ?_)
          exact ⟨⟨_, k, k + 1, by omega, by omega, by omega, rfl, h3.snoc (by omega) (by omega) hb h4, fun j hj1 hj2 => by omega⟩, by dsimp only; omega⟩
        · rw [decide_eq_false_iff_not] at hd
          exact ⟨⟨l, f, k + 1, by omega, by omega, h0, rfl, h3, stay (.inr (by omega))⟩, by dsimp only; omega⟩
        · exact ⟨⟨l, f, k + 1, by omega, by omega, h0, rfl, h3, stay (.inl (by simpa using hb))⟩, by dsimp only; omega⟩
      · rw [decide_eq_false_iff_not] at hc
        have hf : f = rs.length := by
          by_cases e : f = rs.length
          · exact e
          · rw [h4 rs.length (by omega) (by omega)] at hBn
            cases hBn
        rw [← hf]
        exact h3)
    ⟨[], 0, 0, by omega, by omega, by omega, rfl, rfl, fun j h1 h2 => by omega⟩
  exact ⟨z, Post.run (Post.bnd hb (Post.bnd hz (Post.pure rfl))), h⟩

theorem clusterBack_F (rs : List Int) (hn : rs.length ≤ 2097152) : law31_ClusterBack_F rs = some true := by
  unfold law31_ClusterBack_F law31_ClusterBack_T
  have hB := clBreaks_len rs
  obtain ⟨l, hl, hch⟩ := of_F rs (by omega)
  have hb := breaks_F rs (by omega)
  generalize clBreaks rs = B at *
  have hlen := hch.len
  obtain ⟨z, hz, h⟩ := loop_ex (L := fun s : List Int × List Bool × Int × Int => law31_ClusterBack_L5 s.1 s.2.1 s.2.2.1 s.2.2.2)
    (I := fun s => ∃ (q : List (Int × Int)) (a i : Nat), i + q.length = l.length ∧ i ≤ a ∧ s = (rs, B, (a : Int), (i : Int)) ∧ Chain B a q rs.length ∧ (a = 0 ∨ B.getD a false = true))
    (m := fun s => rs.length - s.2.2.1.toNat) (R := fun z => z = .inl (rs, (rs.length : Int), (l.length : Int))) (s0 := (rs, B, 0, 0))
    (by
      rintro s ⟨q, a, i, h1, h2, rfl, h3, h4⟩
      dsimp only
      unfold law31_ClusterBack_L5
      cases q with
      | nil =>
        have e : a = rs.length := h3
        refine Post.brF (by simp; omega) (Post.pure ?_)
        simp only [List.length_nil] at h1
        rw [e, show i = l.length by omega]
      | cons p q =>
        obtain ⟨e1, c, e2, g1, g2, g3, g4, g5⟩ := h3
        have hle := g5.le
        have hnext : IsNext B (a : Int) (c : Int) := .inl ⟨c, rfl, g2, by omega, g3, fun k hk hak => g4 k (by omega) hk⟩
        have hprev : IsPrev B (c : Int) (a : Int) := by
          by_cases e : a = 0
          · subst e
            exact .inr ⟨rfl, fun k hk hkl hkc => g4 k hk (by omega)⟩
          · exact .inl ⟨a, rfl, by omega, by omega, by omega, h4.resolve_left e, fun k hk hkl hkc => g4 k hk (by omega)⟩
        obtain ⟨v, hv, hvn⟩ := next_F B (a : Int) (by omega) (by omega)
        obtain ⟨u, hu, hun⟩ := prev_F B (c : Int) (by omega) (by omega)
        have ev := hvn.uniq hnext
        have eu := hun.uniq hprev
        subst ev; subst eu
        refine Post.brT (by simp; omega) (Post.brT (by simp; omega) (Post.bnd hv (Post.brF (by simp; omega) (Post.bnd hu (Post.brF (by simp) (Post.pure ?_))))))
        rw [wrap_succ' (by omega)]
        simp only [List.length_cons] at h1
        exact ⟨⟨q, c, i + 1, by omega, by omega, rfl, g5, .inr g3⟩, by dsimp only; omega⟩)
    ⟨l, 0, 0, by omega, by omega, rfl, hch, .inl rfl⟩
  subst h
  exact Post.run (Post.bnd awake31 (Post.brF rfl (Post.bnd hb (Post.altL hz (Post.brT (by simp) (Post.bnd hl (Post.pure (by simp))))))))

theorem clusterSpans_F (rs : List Int) (hn : rs.length ≤ 2097152) : law31_ClusterSpans_F rs = some true := by
  unfold law31_ClusterSpans_F law31_ClusterSpans_T
  have hB := clBreaks_len rs
  obtain ⟨l, hl, hch⟩ := of_F rs (by omega)
  have hb := breaks_F rs (by omega)
  generalize clBreaks rs = B at *
  have hlen := hch.len
  rw [wrap_succ' (by omega)]
  obtain ⟨z, hz, h⟩ := loop_ex (L := fun s : List Int × List Bool × Int × (List (Int × Int)) × Int × Int => law31_ClusterSpans_L8 s.1 s.2.1 s.2.2.1 s.2.2.2.1 s.2.2.2.2.1 s.2.2.2.2.2)
    (I := fun s => ∃ (a i : Nat), i ≤ l.length ∧ s = (rs, B, (a : Int), l, (l.length : Int), (i : Int)) ∧ Chain B a (l.drop i) rs.length)
    (m := fun s => l.length - s.2.2.2.2.2.toNat) (R := fun z => z = .inl (rs, (rs.length : Int))) (s0 := (rs, B, 0, l, (l.length : Int), 0))
    (by
      rintro s ⟨a, i, h1, rfl, h3⟩
      dsimp only
      unfold law31_ClusterSpans_L8
      by_cases hi : i < l.length
      · rw [List.drop_eq_getElem_cons hi] at h3
        obtain ⟨e1, c, e2, g1, g2, g3, g4, g5⟩ := h3
        have hle := g5.le
        refine Post.brT (by simp; omega) (Post.bnd (idx_get rfl hi) ?_)
        generalize l[i] = p at *
        have o := one_idx p
        refine Post.bnd o (Post.brF (by rw [e1]; simp) (Post.bnd o (Post.brF (by rw [e2]; simp; omega) (Post.bnd o (Post.brF (by rw [e2]; simp; omega) (Post.bnd o ?_))))))
        refine Post.idx false c e2 g2 (Post.brF (by rw [g3]; rfl) (Post.bnd o ?_))
        rw [e1, wrap_succ' (by omega)]
        obtain ⟨y, hy, hyy⟩ := loop_ex (L := fun s : List Int × List Bool × (Int × Int) × Int × (List (Int × Int)) × Int × Int => law31_ClusterSpans_L13 s.1 s.2.1 s.2.2.1 s.2.2.2.1 s.2.2.2.2.1 s.2.2.2.2.2.1 s.2.2.2.2.2.2)
          (I := fun s => ∃ k : Nat, a < k ∧ k ≤ c ∧ s = (rs, B, p, (k : Int), l, (l.length : Int), (i : Int)))
          (m := fun s => c - s.2.2.2.1.toNat) (R := fun y => y = .inl (rs, B, p, l, (l.length : Int), (i : Int))) (s0 := (rs, B, p, ((a + 1 : Nat) : Int), l, (l.length : Int), (i : Int)))
          (by
            rintro s ⟨k, k1, k2, rfl⟩
            dsimp only
            unfold law31_ClusterSpans_L13
            refine Post.bnd o ?_
            rw [e2]
            refine Post.br (fun hc => ?_) (fun hc => Post.pure rfl)
            · rw [decide_eq_true_eq] at hc
              refine Post.idx false k rfl (by omega) (Post.brF (by rw [g4 k k1 (by omega)]) (Post.pure ?_))
              rw [wrap_succ' (by omega)]
              exact ⟨⟨k + 1, by omega, by omega, rfl⟩, by dsimp only; omega⟩)
          ⟨a + 1, by omega, by omega, rfl⟩
        subst hyy
        refine Post.altL hy (Post.bnd o (Post.pure ?_))
        dsimp only
        rw [e2]
        exact ⟨⟨c, i + 1, by omega, by rw [wrap_succ' (by omega)], g5⟩, by rw [wrap_succ' (by omega)]; omega⟩
      · refine Post.brF (by simp; omega) (Post.pure ?_)
        rw [List.drop_eq_nil_of_le (by omega)] at h3
        have e : a = rs.length := h3
        rw [e])
    ⟨0, 0, by omega, rfl, hch⟩
  subst h
  exact Post.run (Post.bnd awake31 (Post.brF rfl (Post.bnd hb (Post.brF (by rw [hB]; simp) (Post.bnd hl (Post.altL hz (Post.pure (by simp))))))))

theorem clusterBack_all (x : Tys.I [.sl (.int .i32)]) (_h : WfAll [.sl (.int .i32)] x) (hb : bulkAll [.sl (.int .i32)] x ≤ 1048576) : law31_ClusterBack_F x.1 = some true := by
  simp only [bulkAll, bulk] at hb
  exact clusterBack_F _ (by omega)
theorem clusterSpans_all (x : Tys.I [.sl (.int .i32)]) (_h : WfAll [.sl (.int .i32)] x) (hb : bulkAll [.sl (.int .i32)] x ≤ 1048576) : law31_ClusterSpans_F x.1 = some true := by
  simp only [bulkAll, bulk] at hb
  exact clusterSpans_F _ (by omega)

end Go.Proofs.Ytenopbjggdhfgaa
