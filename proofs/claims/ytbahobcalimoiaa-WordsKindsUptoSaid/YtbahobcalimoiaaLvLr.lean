/-
  Parts of elder texts, cut out for the levels.
-/
import Derived.Test.YtbahobcalimoiaaLawLinCel
namespace Go.Proofs.Ytbahobcalimoiaa
set_option linter.all false
def r3 (x : Int × Int × Int) : List Int := [x.1, x.2.1, x.2.2]
theorem lines_ref : ref04_Lines_F = some (linecT.map r3) := by kernel_rfl
theorem getD_mem {t : List (Int × Int × Int)} {k : Nat} (hk : k < t.length) : t.getD k (0, 0, 0) ∈ t := by
  simp [List.getD, hk]
theorem get_getD {t : List (Int × Int × Int)} {k : Nat} (hk : k < t.length) : t[k]? = some (t.getD k (0, 0, 0)) := by
  simp [List.getD, hk]
theorem idx_r3 {t : List (Int × Int × Int)} {i : Int} {k : Nat} (h : i = k) (hk : k < t.length) : idx (t.map r3) i = some (r3 (t.getD k (0, 0, 0))) := by
  rw [idx_get h (by rw [List.length_map]; exact hk)]
  simp [List.getD, hk]
theorem refFind_F (t : List (Int × Int × Int)) (r o : Int) (hs : sortedB t = true) (hn : t.length ≤ 1000000) : ref04_Find_F (t.map r3) r o = some (finds t r o) := by
  have hloop := loop_ex (L := fun s : List (List Int) × Int × Int × Int => ref04_Find_L2 s.1 s.2.1 s.2.2.1 s.2.2.2)
    (I := fun s => ∃ k : Nat, k ≤ t.length ∧ s = (t.map r3, r, o, (k : Int)) ∧ ∀ i, i < k → ¬ ((t.getD i (0, 0, 0)).1 ≤ r ∧ r ≤ (t.getD i (0, 0, 0)).2.1))
    (m := fun s => t.length - s.2.2.2.toNat) (R := fun z => z = .inl (finds t r o) ∨ z = .inr (finds t r o)) (s0 := (t.map r3, r, o, 0))
    (by
      rintro s ⟨k, hk, rfl, hno⟩
      dsimp only
      unfold ref04_Find_L2
      refine Post.br (fun hc => ?_) (fun hc => Post.pure (.inl ?_))
      · rw [decide_eq_true_eq, List.length_map] at hc
        have hk2 : k < t.length := by omega
        have i0 : ∀ x, idx (r3 x) 0 = some x.1 := fun _ => rfl
        have i1 : ∀ x, idx (r3 x) 1 = some x.2.1 := fun _ => rfl
        have i2 : ∀ x, idx (r3 x) 2 = some x.2.2 := fun _ => rfl
        have next : ¬ ((t.getD k (0, 0, 0)).1 ≤ r ∧ r ≤ (t.getD k (0, 0, 0)).2.1) → (∃ k' : Nat, k' ≤ t.length ∧ (t.map r3, r, o, IntKind.i64.wrap ((k : Int) + 1)) = (t.map r3, r, o, (k' : Int)) ∧ ∀ i, i < k' → ¬ ((t.getD i (0, 0, 0)).1 ≤ r ∧ r ≤ (t.getD i (0, 0, 0)).2.1)) ∧ t.length - (IntKind.i64.wrap ((k : Int) + 1)).toNat < t.length - (k : Int).toNat := fun h => by
          refine ⟨⟨k + 1, hk2, by rw [wrap_succ (by omega)], fun i hi => ?_⟩, by rw [wrap_succ (by omega)]; omega⟩
          by_cases e : i = k
          · subst e; exact h
          · exact hno i (by omega)
        refine Post.bnd (idx_r3 rfl hk2) (Post.bnd (i0 _) (Post.br (fun c1 => ?_) (fun c1 => Post.pure (next ?_))))
        · rw [decide_eq_true_eq] at c1
          refine Post.bnd (idx_r3 rfl hk2) (Post.bnd (i1 _) (Post.br (fun c2 => ?_) (fun c2 => Post.pure (next ?_))))
          · rw [decide_eq_true_eq] at c2
            refine Post.bnd (idx_r3 rfl hk2) (Post.bnd (i2 _) (Post.pure (.inr ?_)))
            exact congrArg Sum.inr (has_uniq hs (.inl ⟨_, getD_mem hk2, c1, c2, rfl⟩) (finds_has hs r o))
          · rw [decide_eq_false_iff_not] at c2
            exact fun h => c2 h.2
        · rw [decide_eq_false_iff_not] at c1
          exact fun h => c1 h.1
      · rw [decide_eq_false_iff_not, List.length_map] at hc
        refine congrArg Sum.inl (has_uniq hs (.inr ⟨rfl, fun x hx => ?_⟩) (finds_has hs r o))
        obtain ⟨i, hi⟩ := List.getElem?_of_mem hx
        have hil : i < t.length := by
          rcases Nat.lt_or_ge i t.length with h | h
          · exact h
          · rw [List.getElem?_eq_none h] at hi; cases hi
        have := hno i (by omega)
        rw [get_getD hil] at hi
        cases hi
        exact this)
    ⟨0, by omega, rfl, fun i hi => by omega⟩
  obtain ⟨z, hz, h | h⟩ := hloop
  · subst h
    exact Post.run (Post.altL hz (Post.pure rfl))
  · subst h
    exact Post.run (Post.altR hz (Post.pure rfl))
theorem line_F (r : Int) (h : -2147483648 ≤ r ∧ r ≤ 2147483647) : ref04_Line_F r = some (lc r) := by
  have hl : linecT.length ≤ 1000 := of_decide_eq_true linecT_len
  have out : ¬ (44032 ≤ r ∧ r ≤ 55203) → Post (Tr.bnd ref04_Lines_F fun c => Tr.bnd (ref04_Find_F c r 0) fun d => Tr.pure d : Tr Int) (· = lc r) := fun hn => by
    rw [lc, if_neg hn]
    exact Post.bnd lines_ref (Post.bnd (refFind_F _ _ _ linecT_sorted (by omega)) (Post.pure rfl))
  unfold ref04_Line_F ref04_Line_T
  refine Post.run (Post.br (fun h1 => Post.br (fun h2 => ?_) (fun h2 => ?_)) (fun h1 => ?_))
  · rw [decide_eq_true_eq] at h1 h2
    have e : lc r = if (r - 44032) % 28 = 0 then 37 else 38 := if_pos ⟨h1, h2⟩
    rw [e, wrap64 (by omega) (by omega), Int.tmod_eq_emod_of_nonneg (by omega)]
    refine Post.br (fun h3 => Post.pure ?_) (fun h3 => Post.pure ?_)
    · rw [if_pos (by simpa using h3)]
    · rw [if_neg (by simpa using h3)]
  · rw [decide_eq_false_iff_not] at h2
    exact out fun h => h2 h.2
  · rw [decide_eq_false_iff_not] at h1
    exact out fun h => h1 h.1

end Go.Proofs.Ytbahobcalimoiaa
