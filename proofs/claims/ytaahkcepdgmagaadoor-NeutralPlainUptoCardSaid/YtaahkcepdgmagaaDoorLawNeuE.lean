/-
  The brackets of the reference are the program's.
-/
import Derived.Test.YtaahkcepdgmagaaDoorLawNeuD
namespace Go.Proofs.YtaahkcepdgmagaaDoor
set_option linter.all false

@[reducible] def two (p : Int × Int) : List Int := [p.1, p.2]
theorem mirrors_F : ref04_Mirrors_F = some (gtab.map two) := by kernel_rfl
theorem rlen : (gtab.map two).length = 35 := rfl
theorem map_at {k : Nat} (hk : k < gtab.length) : (gtab.map two).getD k [] = two (gtab.getD k pz) := by simp [List.getD, hk]
theorem two0 (p : Int × Int) : idx (two p) 0 = some p.1 := rfl
theorem two1 (p : Int × Int) : idx (two p) 1 = some p.2 := rfl
@[reducible] def plainL : List Int := [60, 171, 8249, 8712, 8713, 8804, 8806, 8810, 8834, 8838, 65308]
theorem plain_F : ref04_Plain_F = some plainL := rfl
theorem plain_mem (a : Int) : isBr a = false ↔ a ∈ plainL := by
  unfold isBr plainL
  simp
  omega
theorem rplain_F {x : Int} {k : Nat} (hk : k < 35) : ∃ r, loopW (fun s : Int × List (List Int) × Int × List Int × Int => (ref04_Bracket_L8 s.1 s.2.1 s.2.2.1 s.2.2.2.1 s.2.2.2.2).run) (x, gtab.map two, (k : Int), plainL, 0) = some r ∧
    (match r with | .inl r => r = (x, gtab.map two, (k : Int)) ∧ isBr (gtab.getD k pz).1 = true | .inr r => r = (0, 0) ∧ isBr (gtab.getD k pz).1 = false) := by
  have hg : k < gtab.length := by rw [glen]; exact hk
  have hi := idx_getD (xs := gtab.map two) [] (i := (k : Int)) rfl (by rw [rlen]; exact hk)
  rw [map_at hg] at hi
  refine loop_ex (L := fun s : Int × List (List Int) × Int × List Int × Int => ref04_Bracket_L8 s.1 s.2.1 s.2.2.1 s.2.2.2.1 s.2.2.2.2) (fun s => ∃ j : Nat, j ≤ 11 ∧ s = (x, gtab.map two, (k : Int), plainL, (j : Int)) ∧ ∀ i, i < j → plainL.getD i 0 ≠ (gtab.getD k pz).1) (fun s => 11 - s.2.2.2.2.toNat) ?_ ⟨0, by omega, rfl, fun i h => by omega⟩
  rintro s ⟨j, hj, rfl, h⟩
  dsimp only
  unfold ref04_Bracket_L8
  generalize gtab.getD k pz = p at *
  have hl : plainL.length = 11 := rfl
  by_cases e : j < 11
  · refine Post.brT (by rw [decide_eq_true_eq, hl]; omega) (Post.idx 0 j rfl (by rw [hl]; exact e) (Post.bnd hi (Post.bnd (two0 p) ?_)))
    by_cases h1 : plainL.getD j 0 = p.1
    · refine Post.brT (beq_iff_eq.2 h1) (Post.pure ⟨rfl, (plain_mem _).2 ?_⟩)
      rw [← h1]
      rw [show plainL.getD j 0 = plainL[j] by simp [List.getD, hl, e]]
      exact List.getElem_mem _
    · refine Post.brF (beq_eq_false_iff_ne.2 h1) (Post.pure ?_)
      rw [wrap_succ (by omega)]
      refine ⟨⟨j + 1, e, rfl, fun i hi => ?_⟩, by dsimp only; omega⟩
      rcases Nat.lt_or_ge i j with g | g
      · exact h i g
      · rw [show i = j by omega]; exact h1
  · refine Post.brF (by rw [decide_eq_false_iff_not, hl]; omega) (Post.pure ⟨rfl, ?_⟩)
    cases hb : isBr p.1 with
    | true => rfl
    | false =>
      obtain ⟨i, hi, hm⟩ := List.getElem_of_mem ((plain_mem _).1 hb)
      exact absurd (show plainL.getD i 0 = p.1 by simp only [List.getD, List.getElem?_eq_getElem hi, Option.getD_some]; exact hm) (h i (by rw [hl] at hi; omega))
theorem rbrack_F (x : Int) : ref04_Bracket_F x = some (rbV x) := by
  unfold ref04_Bracket_F ref04_Bracket_T
  refine Post.run (Post.bnd mirrors_F (Post.alt (R := fun r => match r with | .inl _ => rb1 gtab x = none | .inr r => rb1 gtab x = some r) (loop_ex (L := fun s : Int × List (List Int) × Int => ref04_Bracket_L3 s.1 s.2.1 s.2.2) (fun s => ∃ k : Nat, k ≤ 35 ∧ s = (x, gtab.map two, (k : Int)) ∧ rb1 gtab x = rb1 (gtab.drop k) x) (fun s => 35 - s.2.2.toNat) ?_ ⟨0, by omega, rfl, rfl⟩) ?_ ?_))
  · rintro s ⟨k, hk, rfl, h⟩
    dsimp only
    unfold ref04_Bracket_L3
    by_cases e : k < 35
    · have hg : k < gtab.length := by rw [glen]; exact e
      rw [drop_cons hg] at h
      have hi := idx_getD (xs := gtab.map two) [] (i := (k : Int)) rfl (by rw [rlen]; exact e)
      rw [map_at hg] at hi
      have hp := rplain_F (x := x) e
      generalize gtab.getD k pz = p at *
      unfold rb1 at h
      refine Post.brT (by rw [decide_eq_true_eq, rlen]; omega) (Post.bnd hi (Post.bnd (two0 p) ?_))
      have tail : ∀ {Q : Lap (Int × List (List Int) × Int) (Sum Unit (Int × Int)) → Prop}, (∀ v, rb1 gtab x = some v → Q (.done (.inr v))) → (isBr p.1 = false → rb1 gtab x = some (0, 0)) → (isBr p.1 = true → rb1 gtab x = if p.1 = x then some (1, kn p.1) else some (2, kn p.1)) → ∀ {A : Tr (Lap (Int × List (List Int) × Int) (Sum Unit (Int × Int)))}, A = Tr.bnd ref04_Plain_F (fun c_18 =>
          .alt (loopW (fun s => (ref04_Bracket_L8 s.1 s.2.1 s.2.2.1 s.2.2.2.1 s.2.2.2.2).run) (x, gtab.map two, (k : Int), c_18, 0)) (fun l_19 =>
            .bnd (idx l_19.2.1 l_19.2.2) fun x_20 => .bnd (idx x_20 0) fun x_21 => .br (x_21 == 9001) (
              .bnd (idx l_19.2.1 l_19.2.2) fun x_22 => .bnd (idx x_22 0) fun x_23 => .br (x_23 == l_19.1) (.pure (.done (.inr (1, 12296)))) (.pure (.done (.inr (2, 12296))))) (
              .bnd (idx l_19.2.1 l_19.2.2) fun x_24 => .bnd (idx x_24 0) fun x_25 => .br (x_25 == l_19.1) (.pure (.done (.inr (1, x_21)))) (.pure (.done (.inr (2, x_21)))))) (fun l_26 =>
            .pure (.done (.inr (l_26.1, l_26.2))))) → Post A Q := by
        intro Q hQ g0 g1 A hA
        rw [hA]
        obtain ⟨r, q1, q2⟩ := hp
        refine Post.bnd plain_F ?_
        cases r with
        | inl r =>
          obtain ⟨rfl, hb⟩ := q2
          refine Post.altL q1 (Post.bnd hi (Post.bnd (two0 p) ?_))
          have g1 := g1 hb
          unfold kn at g1
          by_cases h9 : p.1 = 9001
          · rw [if_pos h9] at g1
            refine Post.brT (beq_iff_eq.2 h9) (Post.bnd hi (Post.bnd (two0 p) ?_))
            by_cases h1 : p.1 = x
            · rw [if_pos h1] at g1
              exact Post.brT (beq_iff_eq.2 h1) (Post.pure (hQ _ g1))
            · rw [if_neg h1] at g1
              exact Post.brF (beq_eq_false_iff_ne.2 h1) (Post.pure (hQ _ g1))
          · rw [if_neg h9] at g1
            refine Post.brF (beq_eq_false_iff_ne.2 h9) (Post.bnd hi (Post.bnd (two0 p) ?_))
            by_cases h1 : p.1 = x
            · rw [if_pos h1] at g1
              exact Post.brT (beq_iff_eq.2 h1) (Post.pure (hQ _ g1))
            · rw [if_neg h1] at g1
              exact Post.brF (beq_eq_false_iff_ne.2 h1) (Post.pure (hQ _ g1))
        | inr r =>
          obtain ⟨rfl, hb⟩ := q2
          exact Post.altR q1 (Post.pure (hQ _ (g0 hb)))
      by_cases h1 : p.1 = x
      · rw [if_neg (fun g => g.1 h1)] at h
        exact Post.brF (by simpa using h1) (tail (fun v hv => hv) (fun hb => by rw [if_pos hb] at h; exact h) (fun hb => by rw [if_neg (by rw [hb]; simp)] at h; exact h) rfl)
      · refine Post.brT (by simpa using h1) (Post.bnd hi (Post.bnd (two1 p) ?_))
        by_cases h2 : p.2 = x
        · rw [if_neg (fun g => g.2 h2)] at h
          exact Post.brF (by simpa using h2) (tail (fun v hv => hv) (fun hb => by rw [if_pos hb] at h; exact h) (fun hb => by rw [if_neg (by rw [hb]; simp)] at h; exact h) rfl)
        · rw [if_pos ⟨h1, h2⟩] at h
          refine Post.brT (by simpa using h2) (Post.pure ?_)
          rw [wrap_succ (by omega)]
          exact ⟨⟨k + 1, e, rfl, h⟩, by dsimp only; omega⟩
    · refine Post.brF (by rw [decide_eq_false_iff_not, rlen]; omega) (Post.pure ?_)
      show rb1 gtab x = none
      rw [h, List.drop_of_length_le (by rw [glen]; omega)]
      rfl
  · intro b h
    have h : rb1 gtab x = none := h
    exact Post.pure (by unfold rbV; rw [h])
  · intro y h
    have h : rb1 gtab x = some y := h
    exact Post.pure (by unfold rbV; rw [h])
theorem brV_tab : ∀ p ∈ gtab, brV p.1 = rbV p.1 ∧ brV p.2 = rbV p.2 := by decide +kernel
theorem rbV_eq (x : Int) : rbV x = brV x := by
  rcases on_or_off x with h | ⟨p, hp, rfl | rfl⟩
  · rw [brV_off h, rbV_off h]
  · exact (brV_tab p hp).1.symm
  · exact (brV_tab p hp).2.symm

/-! ### the pairs -/
abbrev two' (q : Int × Int) : List Int := [q.1, q.2]
theorem collect {n : Nat} (hn : n ≤ 4194304) {c m : List Int} (h : Rl n c m) : ∀ (d t : Nat) (ps : List (Int × Int)), n = t + d → ps.length ≤ t →
    ∃ r, loopW (fun s : List (Int × Int) × List Int × Int × Int => (pairs_Of_L4 s.1 s.2.1 s.2.2.1 s.2.2.2).run) (ps, c, (n : Int), (t : Int)) = some r ∧
      loopW (fun s : List Int × List (List Int) × Int => (ref14_Pairs_L22 s.1 s.2.1 s.2.2).run) (m, ps.map two', (t : Int)) = some (r.map two')
  | 0, t, ps, ht, hl => ⟨ps, loopW_done (Post.run (by
      dsimp only
      unfold pairs_Of_L4
      exact Post.brF (decide_eq_false (by omega)) (Post.pure rfl))), loopW_done (Post.run (by
      dsimp only
      unfold ref14_Pairs_L22
      exact Post.brF (decide_eq_false (by rw [h.2.1]; omega)) (Post.pure rfl)))⟩
  | d + 1, t, ps, ht, hl => by
    have htn : t < n := by omega
    have hw : IntKind.i64.wrap ((t : Int) + 1) = ((t + 1 : Nat) : Int) := wrap_succ (by omega)
    rcases h.2.2 t htn with ⟨c0, m0⟩ | ⟨c0, m0⟩
    · obtain ⟨r, h1, h2⟩ := collect hn h d (t + 1) ps (by omega) (by omega)
      refine ⟨r, loopW_next (Post.run ?_) h1, loopW_next (Post.run ?_) h2⟩
      · dsimp only
        unfold pairs_Of_L4
        refine Post.brT (decide_eq_true (by omega)) (Post.idx 0 t rfl (by rw [h.1]; exact htn) (Post.brF (decide_eq_false (by omega)) (Post.pure ?_)))
        rw [hw]
      · dsimp only
        unfold ref14_Pairs_L22
        refine Post.brT (decide_eq_true (by rw [h.2.1]; omega)) (Post.idx 0 t rfl (by rw [h.2.1]; exact htn) (Post.brF (decide_eq_false (by omega)) (Post.pure ?_)))
        rw [hw]
    · obtain ⟨r, h1, h2⟩ := collect hn h d (t + 1) (ps ++ [((t : Int), c.getD t 0)]) (by omega) (by rw [List.length_append, List.length_singleton]; omega)
      refine ⟨r, loopW_next (Post.run ?_) h1, loopW_next (Post.run ?_) h2⟩
      · dsimp only
        unfold pairs_Of_L4
        refine Post.brT (decide_eq_true (by omega)) (Post.idx 0 t rfl (by rw [h.1]; exact htn) (Post.brT (decide_eq_true (by omega)) (Post.bnd (app_eq (by simp only [List.length_singleton]; omega)) (Post.pure ?_))))
        rw [hw]
      · dsimp only
        unfold ref14_Pairs_L22
        refine Post.brT (decide_eq_true (by rw [h.2.1]; omega)) (Post.idx 0 t rfl (by rw [h.2.1]; exact htn) (Post.brT (decide_eq_true (by omega)) (Post.idx 0 t rfl (by rw [h.2.1]; exact htn) (Post.bnd (app_eq (by simp only [List.length_map, List.length_singleton]; omega)) (Post.pure ?_)))))
        rw [hw, m0, List.map_append]
        rfl
theorem fill_m (sides ids : List Int) {n : Nat} (hn : n ≤ 4194304) : loopW (fun s : List Int × List Int × List Int × Int => (ref14_Pairs_L3 s.1 s.2.1 s.2.2.1 s.2.2.2).run) (sides, ids, tab n (fun _ => 0), 0) = some (sides, ids, tab n (fun _ => -1)) := by
  refine count (L := fun s : List Int × List Int × List Int × Int => ref14_Pairs_L3 s.1 s.2.1 s.2.2.1 s.2.2.2) n (fun k => (sides, ids, tab n (part (fun _ => -1) (fun _ => 0) k), (k : Int))) rfl (fun k hk => ?_) ?_
  · dsimp only
    unfold ref14_Pairs_L3
    refine Post.brT (decide_eq_true (by rw [tab_len]; omega)) (ptab k rfl hk (Post.pure ?_))
    rw [wrap_succ (by omega), toNat_nat, part_set n (m := fun _ => (-1 : Int)) (k := k) rfl]
  · dsimp only
    unfold ref14_Pairs_L3
    exact Post.brF (decide_eq_false (by rw [tab_len]; omega)) (Post.pure (by rw [part_end]))
theorem want_same (rs cs : List Int) {n : Nat} (h1 : rs.length = n) (h2 : cs.length = n) (hn : n ≤ 4194304) (w : ∀ x ∈ rs, -2147483648 ≤ x ∧ x ≤ 2147483647) : ∃ ps, pairs_Of_F rs cs = some ps ∧ law15_Want_F rs cs = some (ps.map two') := by
  have hr0 : Rl n (List.replicate n 0) (tab n (fun _ => -1)) := ⟨List.length_replicate .., tab_len _ _, fun i hi => .inl ⟨by simp [List.getD, hi], tab_getD _ _ hi⟩⟩
  obtain ⟨z, c, m, hz, hr, u, v⟩ := mates rs cs h1 h2 hn n 0 _ _ [] (by omega) hr0 (Nat.le_refl _) (fun q h => by cases h)
  obtain ⟨ps, g1, g2⟩ := collect hn hr n 0 [] (by omega) (Nat.le_refl _)
  have hc : pairs_closings_F rs cs = some c := by
    unfold pairs_closings_F pairs_closings_T
    rw [h1, h2, if_neg (by omega)]
    rcases hz with rfl | rfl
    · exact Post.run (Post.bnd (mk_eq (k := n) rfl (by omega)) (Post.altL u (Post.pure rfl)))
    · exact Post.run (Post.bnd (mk_eq (k := n) rfl (by omega)) (Post.altR u (Post.pure rfl)))
  refine ⟨ps, ?_, ?_⟩
  · unfold pairs_Of_F pairs_Of_T
    refine Post.run (Post.bnd hc ?_)
    rw [hr.1]
    exact Post.bnd g1 (Post.pure rfl)
  · have hw : loopW (fun s : List Int × List Int × List Int × List Int × Int => (law15_Want_L3 s.1 s.2.1 s.2.2.1 s.2.2.2.1 s.2.2.2.2).run) (rs, cs, [], [], 0) = some (tab n (sdOf rs cs), tab n (idOf rs)) := by
      refine count (L := fun s : List Int × List Int × List Int × List Int × Int => law15_Want_L3 s.1 s.2.1 s.2.2.1 s.2.2.2.1 s.2.2.2.2) n (fun k => (rs, cs, tab k (sdOf rs cs), tab k (idOf rs), (k : Int))) rfl (fun k hk => ?_) ?_
      · dsimp only
        unfold law15_Want_L3
        have hx : -2147483648 ≤ rs.getD k 0 ∧ rs.getD k 0 ≤ 2147483647 := by
          rw [List.getD_eq_getElem?_getD, List.getElem?_eq_getElem (by omega), Option.getD_some]
          exact w _ (List.getElem_mem _)
        refine Post.brT (decide_eq_true (by omega)) (Post.brT (decide_eq_true (by omega)) (Post.idx 0 k rfl (by omega) ?_))
        rw [wrap64 (n := rs.getD k 0) (by omega) (by omega)]
        refine Post.bnd (rbrack_F _) ?_
        rw [rbV_eq]
        refine Post.idx 0 k rfl (by omega) ?_
        by_cases e : cs.getD k 0 = 13
        · refine Post.brF (by simpa using e) (Post.bnd (app_eq (by simp only [tab_len, List.length_singleton]; omega)) (Post.bnd (app_eq (by simp only [tab_len, List.length_singleton]; omega)) (Post.pure ?_)))
          rw [wrap_succ (by omega), ← tab_succ k (sdOf rs cs), ← tab_succ k (idOf rs), show sdOf rs cs k = (brV (rs.getD k 0)).1 from if_pos e]
        · refine Post.brT (by simpa using e) (Post.bnd (app_eq (by simp only [tab_len, List.length_singleton]; omega)) (Post.bnd (app_eq (by simp only [tab_len, List.length_singleton]; omega)) (Post.pure ?_)))
          rw [wrap_succ (by omega), ← tab_succ k (sdOf rs cs), ← tab_succ k (idOf rs), show sdOf rs cs k = 0 from if_neg e]
      · dsimp only
        unfold law15_Want_L3
        exact Post.brF (decide_eq_false (by omega)) (Post.pure rfl)
    unfold law15_Want_F law15_Want_T
    refine Post.run (Post.bnd hw (Post.bnd (b := ps.map two') ?_ (Post.pure rfl)))
    unfold ref14_Pairs_F ref14_Pairs_T
    dsimp only
    rw [tab_len]
    refine Post.run (Post.bnd (b := tab n (fun _ => (0 : Int))) (by rw [← tab_rep]; exact mk_eq (k := n) rfl (by omega)) (Post.bnd (fill_m _ _ hn) (Post.bnd v (Post.bnd g2 (Post.pure rfl)))))

end Go.Proofs.YtaahkcepdgmagaaDoor
