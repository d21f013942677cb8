/-
  The pairs of brackets are those of the reference (for the rules of brackets).
-/
import Derived.Test.YtaahkcepdgmagaaDoorLawNeuC
namespace Go.Proofs.YtaahkcepdgmagaaDoor
set_option linter.all false

theorem find_both (st : List (Int × Int)) (kn : Int) (sides ids mate : List Int) (t : Nat) (ht : t < ids.length) (hid : ids.getD t 0 = kn) (hst : ∀ q ∈ st, 0 ≤ q.1 ∧ q.1 < ids.length ∧ ids.getD q.1.toNat 0 = q.2) (hn : st.length ≤ 4194304) : ∀ k : Nat, k ≤ st.length →
    ∃ v : Int, v < k ∧ (v = -1 ∨ 0 ≤ v) ∧ loopW (fun s : List (Int × Int) × Int × Int => (pairs_find_L2 s.1 s.2.1 s.2.2).run) (st, kn, (k : Int) - 1) = some (if v < 0 then .inl () else .inr v) ∧
      loopW (fun s : List Int × List Int × List Int × List Int × Int × Int => (ref14_Pairs_L15 s.1 s.2.1 s.2.2.1 s.2.2.2.1 s.2.2.2.2.1 s.2.2.2.2.2).run) (sides, ids, mate, st.map Prod.fst, (t : Int), (k : Int) - 1) = some (sides, ids, mate, st.map Prod.fst, (t : Int), v)
  | 0, _ => ⟨-1, by omega, .inl rfl, loopW_done (Post.run (by
      dsimp only
      unfold pairs_find_L2
      exact Post.brF (decide_eq_false (by omega)) (Post.pure (by simp)))), loopW_done (Post.run (by
      dsimp only
      unfold ref14_Pairs_L15
      exact Post.brF (decide_eq_false (by omega)) (Post.pure (by simp))))⟩
  | k + 1, h => by
    have hk : ((k + 1 : Nat) : Int) - 1 = (k : Int) := by omega
    have hw : IntKind.i64.wrap ((k : Int) - 1) = (k : Int) - 1 := wrap64 (by omega) (by omega)
    have hq := hst st[k] (List.getElem_mem h)
    have hm : (st.map Prod.fst).getD k 0 = st[k].1 := by simp [List.getD, show k < st.length from h]
    rw [hk]
    by_cases e : st[k].2 = kn
    · refine ⟨k, by omega, .inr (by omega), loopW_done (Post.run ?_), loopW_done (Post.run ?_)⟩
      · dsimp only
        unfold pairs_find_L2
        exact Post.brT (decide_eq_true (by omega)) (Post.bnd (idx_get (k := k) rfl h) (Post.brT (by simpa using e) (Post.pure (by rw [if_neg (by omega)]))))
      · dsimp only
        unfold ref14_Pairs_L15
        refine Post.brT (decide_eq_true (by omega)) (Post.idx 0 k rfl (by rw [List.length_map]; exact h) ?_)
        rw [hm]
        refine Post.idx 0 st[k].1.toNat (by omega) (by omega) (Post.idx 0 t rfl ht (Post.brF ?_ (Post.pure rfl)))
        rw [hq.2.2, hid, e]
        simp
    · obtain ⟨v, h1, h2, h3, h4⟩ := find_both st kn sides ids mate t ht hid hst hn k (by omega)
      refine ⟨v, by omega, h2, loopW_next (Post.run ?_) h3, loopW_next (Post.run ?_) h4⟩
      · dsimp only
        unfold pairs_find_L2
        refine Post.brT (decide_eq_true (by omega)) (Post.bnd (idx_get (k := k) rfl h) (Post.brF (by simpa using e) (Post.pure ?_)))
        rw [hw]
      · dsimp only
        unfold ref14_Pairs_L15
        refine Post.brT (decide_eq_true (by omega)) (Post.idx 0 k rfl (by rw [List.length_map]; exact h) ?_)
        rw [hm]
        refine Post.idx 0 st[k].1.toNat (by omega) (by omega) (Post.idx 0 t rfl ht (Post.brT ?_ (Post.pure ?_)))
        · rw [hq.2.2, hid]; simpa using e
        · rw [hw]

def Rl (n : Nat) (c m : List Int) : Prop := c.length = n ∧ m.length = n ∧ ∀ i, i < n → (c.getD i 0 = 0 ∧ m.getD i 0 = -1) ∨ (0 < c.getD i 0 ∧ m.getD i 0 = c.getD i 0)
theorem rl_set {n : Nat} {c m : List Int} (h : Rl n c m) {p t : Nat} (hp : p < n) (ht : 0 < t) : Rl n (c.set p t) (m.set p t) := by
  refine ⟨by rw [List.length_set]; exact h.1, by rw [List.length_set]; exact h.2.1, fun i hi => ?_⟩
  simp only [List.getD, List.getElem?_set]
  by_cases e : p = i
  · rw [if_pos e, if_pos e, if_pos (by rw [h.1]; exact hp), if_pos (by rw [h.2.1]; exact hp)]
    right
    simp only [Option.getD_some]
    exact ⟨by omega, trivial⟩
  · rw [if_neg e, if_neg e]; exact h.2.2 i hi
abbrev sdOf (rs cs : List Int) (i : Nat) : Int := if cs.getD i 0 = 13 then (brV (rs.getD i 0)).1 else 0
abbrev idOf (rs : List Int) (i : Nat) : Int := (brV (rs.getD i 0)).2
def Out (rs cs : List Int) (n t : Nat) (c m : List Int) (st : List (Int × Int)) : Prop :=
    ∃ z c' m', (z = .inl c' ∨ z = .inr c') ∧ Rl n c' m' ∧
      loopW (fun s : List Int × List Int × List Int × (List (Int × Int)) × Int × Int => (pairs_closings_L5 s.1 s.2.1 s.2.2.1 s.2.2.2.1 s.2.2.2.2.1 s.2.2.2.2.2).run) (rs, cs, c, st, (n : Int), (t : Int)) = some z ∧
      loopW (fun s : List Int × List Int × List Int × List Int × Int => (ref14_Pairs_L8 s.1 s.2.1 s.2.2.1 s.2.2.2.1 s.2.2.2.2).run) (tab n (sdOf rs cs), tab n (idOf rs), m, st.map Prod.fst, (t : Int)) = some m'
theorem mates (rs cs : List Int) {n : Nat} (h1 : rs.length = n) (h2 : cs.length = n) (hn : n ≤ 4194304) : ∀ (d t : Nat) (c m : List Int) (st : List (Int × Int)), n = t + d → Rl n c m → st.length ≤ t → (∀ q ∈ st, 0 ≤ q.1 ∧ q.1 < t ∧ idOf rs q.1.toNat = q.2) → Out rs cs n t c m st
  | 0, t, c, m, st, h, hr, hl, hq => ⟨.inl c, c, m, .inl rfl, hr, loopW_done (Post.run (by
      dsimp only
      unfold pairs_closings_L5
      exact Post.brF (decide_eq_false (by omega)) (Post.pure rfl))), loopW_done (Post.run (by
      dsimp only
      unfold ref14_Pairs_L8
      exact Post.brF (decide_eq_false (by rw [tab_len]; omega)) (Post.pure rfl)))⟩
  | d + 1, t, c, m, st, h, hr, hl, hq => by
    have ht : t < n := by omega
    have hw : IntKind.i64.wrap ((t : Int) + 1) = ((t + 1 : Nat) : Int) := wrap_succ (by omega)
    have next : ∀ {c2 m2 : List Int} {st2 : List (Int × Int)}, Rl n c2 m2 → st2.length ≤ t + 1 → (∀ q ∈ st2, 0 ≤ q.1 ∧ q.1 < ((t + 1 : Nat) : Int) ∧ idOf rs q.1.toNat = q.2) →
        Post (pairs_closings_L5 rs cs c st (n : Int) (t : Int)) (· = .next (rs, cs, c2, st2, (n : Int), ((t + 1 : Nat) : Int))) →
        Post (ref14_Pairs_L8 (tab n (sdOf rs cs)) (tab n (idOf rs)) m (st.map Prod.fst) (t : Int)) (· = .next (tab n (sdOf rs cs), tab n (idOf rs), m2, st2.map Prod.fst, ((t + 1 : Nat) : Int))) → Out rs cs n t c m st := fun a b e p q => by
      obtain ⟨z, c', m', x, y, u, v⟩ := mates rs cs h1 h2 hn d (t + 1) _ _ _ (by omega) a b e
      exact ⟨z, c', m', x, y, loopW_next (Post.run p) u, loopW_next (Post.run q) v⟩
    have hq' : ∀ q ∈ st, 0 ≤ q.1 ∧ q.1 < ((t + 1 : Nat) : Int) ∧ idOf rs q.1.toNat = q.2 := fun q h => by have := hq q h; exact ⟨this.1, by omega, this.2.2⟩
    by_cases e1 : cs.getD t 0 = 13
    · have es : sdOf rs cs t = (brV (rs.getD t 0)).1 := if_pos e1
      by_cases s1 : (brV (rs.getD t 0)).1 = 1
      · by_cases e63 : st.length = 63
        · refine ⟨.inr c, c, m, .inr rfl, hr, loopW_done (Post.run ?_), loopW_done (Post.run ?_)⟩
          · dsimp only
            unfold pairs_closings_L5
            exact Post.brT (decide_eq_true (by omega)) (Post.idx 0 t rfl (by omega) (Post.brF (by simpa using e1) (Post.idx 0 t rfl (by omega) (Post.bnd (brack_F _) (Post.brT (by simpa using s1) (Post.brT (by rw [e63]; rfl) (Post.pure rfl)))))))
          · dsimp only
            unfold ref14_Pairs_L8
            exact Post.brT (decide_eq_true (by rw [tab_len]; omega)) (ptab t rfl ht (Post.brT (by rw [es]; simpa using s1) (Post.brT (by rw [List.length_map, e63]; rfl) (Post.pure rfl))))
        · refine next (st2 := st ++ [((t : Int), (brV (rs.getD t 0)).2)]) hr (by rw [List.length_append, List.length_singleton]; omega) (fun q h => ?_) ?_ ?_
          · rcases List.mem_append.1 h with h | h
            · exact hq' q h
            · rw [List.mem_singleton.1 h]; exact ⟨by dsimp only; omega, by dsimp only; omega, rfl⟩
          · unfold pairs_closings_L5
            refine Post.brT (decide_eq_true (by omega)) (Post.idx 0 t rfl (by omega) (Post.brF (by simpa using e1) (Post.idx 0 t rfl (by omega) (Post.bnd (brack_F _) (Post.brT (by simpa using s1) (Post.brF (by rw [beq_eq_false_iff_ne]; omega) (Post.bnd (app_eq (by simp only [List.length_singleton]; omega)) (Post.pure ?_))))))))
            rw [hw]
          · unfold ref14_Pairs_L8
            refine Post.brT (decide_eq_true (by rw [tab_len]; omega)) (ptab t rfl ht (Post.brT (by rw [es]; simpa using s1) (Post.brF (by rw [List.length_map, beq_eq_false_iff_ne]; omega) (Post.bnd (app_eq (by simp only [List.length_map, List.length_singleton]; omega)) (ptab t rfl ht (Post.brT (by rw [es, s1]; rfl) (Post.pure ?_)))))))
            rw [hw, List.map_append]
            rfl
      · by_cases s2 : (brV (rs.getD t 0)).1 = 2
        · obtain ⟨v, v1, v2, f1, f2⟩ := find_both st (brV (rs.getD t 0)).2 (tab n (sdOf rs cs)) (tab n (idOf rs)) m t (by rw [tab_len]; exact ht) (by rw [tab_getD _ _ ht]) (fun q h => by
            have := hq q h
            exact ⟨this.1, by rw [tab_len]; omega, by rw [tab_getD _ _ (by omega)]; exact this.2.2⟩) (by omega) st.length (Nat.le_refl _)
          have hwl : IntKind.i64.wrap ((st.length : Int) - 1) = (st.length : Int) - 1 := wrap64 (by omega) (by omega)
          have hf : pairs_find_F st (brV (rs.getD t 0)).2 = some v := by
            unfold pairs_find_F pairs_find_T
            rw [hwl]
            by_cases hv : v < 0
            · rw [if_pos hv] at f1
              exact Post.run (Post.altL f1 (Post.pure (by omega)))
            · rw [if_neg hv] at f1
              exact Post.run (Post.altR f1 (Post.pure rfl))
          by_cases hv : v < 0
          · refine next hr (by omega) hq' ?_ ?_
            · unfold pairs_closings_L5
              refine Post.brT (decide_eq_true (by omega)) (Post.idx 0 t rfl (by omega) (Post.brF (by simpa using e1) (Post.idx 0 t rfl (by omega) (Post.bnd (brack_F _) (Post.brF (by simpa using s1) (Post.brT (by simpa using s2) (Post.bnd hf (Post.brF (decide_eq_false (by omega)) (Post.pure ?_)))))))))
              rw [hw]
            · unfold ref14_Pairs_L8
              rw [List.length_map, hwl]
              refine Post.brT (decide_eq_true (by rw [tab_len]; omega)) (ptab t rfl ht (Post.brF (by rw [es]; simpa using s1) (ptab t rfl ht (Post.brF (by rw [es, s2]; rfl) (Post.bnd f2 (Post.brF (decide_eq_false (by dsimp only; omega)) (Post.pure ?_)))))))
              dsimp only
              rw [hw]
          · obtain ⟨k, rfl⟩ : ∃ k : Nat, v = (k : Int) := ⟨v.toNat, by omega⟩
            have hk : k < st.length := by omega
            have hm := hq st[k] (List.getElem_mem hk)
            have hg : (st.map Prod.fst).getD k 0 = st[k].1 := by simp [List.getD, hk]
            refine next (st2 := st.take k) (c2 := c.set st[k].1.toNat t) (m2 := m.set st[k].1.toNat t) (rl_set hr (by omega) (by omega)) (by rw [List.length_take]; omega) (fun q h => hq' q (List.mem_of_mem_take h)) ?_ ?_
            · unfold pairs_closings_L5
              refine Post.brT (decide_eq_true (by omega)) (Post.idx 0 t rfl (by omega) (Post.brF (by simpa using e1) (Post.idx 0 t rfl (by omega) (Post.bnd (brack_F _) (Post.brF (by simpa using s1) (Post.brT (by simpa using s2) (Post.bnd hf (Post.brT (decide_eq_true (by omega)) (Post.bnd (idx_get (k := k) rfl hk) (Post.idx 0 st[k].1.toNat (by omega) (by rw [hr.1]; omega) (Post.bnd (cut_take (n := k) rfl (by omega)) (Post.pure ?_))))))))))))
              rw [hw]
            · unfold ref14_Pairs_L8
              rw [List.length_map, hwl]
              refine Post.brT (decide_eq_true (by rw [tab_len]; omega)) (ptab t rfl ht (Post.brF (by rw [es]; simpa using s1) (ptab t rfl ht (Post.brF (by rw [es, s2]; rfl) (Post.bnd f2 (Post.brT (decide_eq_true (by dsimp only; omega)) (Post.idx 0 k rfl (by rw [List.length_map]; exact hk) ?_)))))))
              dsimp only
              rw [hg]
              refine Post.idx 0 st[k].1.toNat (by omega) (by rw [hr.2.1]; omega) (Post.bnd (cut_take (n := k) rfl (by rw [List.length_map]; omega)) (Post.pure ?_))
              rw [hw, List.map_take]
        · refine next hr (by omega) hq' ?_ ?_
          · unfold pairs_closings_L5
            refine Post.brT (decide_eq_true (by omega)) (Post.idx 0 t rfl (by omega) (Post.brF (by simpa using e1) (Post.idx 0 t rfl (by omega) (Post.bnd (brack_F _) (Post.brF (by simpa using s1) (Post.brF (by simpa using s2) (Post.pure ?_)))))))
            rw [hw]
          · unfold ref14_Pairs_L8
            refine Post.brT (decide_eq_true (by rw [tab_len]; omega)) (ptab t rfl ht (Post.brF (by rw [es]; simpa using s1) (ptab t rfl ht (Post.brT (by rw [es]; simpa using s2) (Post.pure ?_)))))
            rw [hw]
    · have es : sdOf rs cs t = 0 := if_neg e1
      refine next hr (by omega) hq' ?_ ?_
      · unfold pairs_closings_L5
        refine Post.brT (decide_eq_true (by omega)) (Post.idx 0 t rfl (by omega) (Post.brT (by simpa using e1) (Post.pure ?_)))
        rw [hw]
      · unfold ref14_Pairs_L8
        refine Post.brT (decide_eq_true (by rw [tab_len]; omega)) (ptab t rfl ht (Post.brF (by rw [es]; rfl) (ptab t rfl ht (Post.brT (by rw [es]; rfl) (Post.pure ?_)))))
        rw [hw]

end Go.Proofs.YtaahkcepdgmagaaDoor
