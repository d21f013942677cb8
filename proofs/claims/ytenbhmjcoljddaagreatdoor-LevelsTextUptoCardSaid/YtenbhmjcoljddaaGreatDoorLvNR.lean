import Derived.Test.YtenbhmjcoljddaaGreatDoorLvN
namespace Go.Proofs.YtenbhmjcoljddaaGreatDoor.Nu
set_option linter.all false
theorem side_F (c : Int) : ref14_side_F c = some (sid c) := by
 unfold ref14_side_F ref14_side_T
 have h := dir_cases c
 have : sid c = if dir c = 13 then -1 else dir c := rfl
 refine Post.run ?_
 repeat' (first | exact Post.pure (by split at this <;> omega) | (refine Post.br (fun hbr => ?_) (fun hbr => ?_) <;> simp only [zA, zB, zC, zD, zE, zF, zG, zH, zI, zJ, zK, zL, zM, zN] at hbr))
theorem context_F (cs : List Int) (k : Nat) (sos : Int) (hn : cs.length ≤ 4194304) (hk : k ≤ cs.length) : ref14_context_F cs (k : Int) sos = some (pd (fn cs) sos k) := by
 unfold ref14_context_F ref14_context_T
 rw [wrap64 (by omega) (by omega)]
 refine Post.run (Post.alt (R := fun r => match r with | .inl v => pd (fn cs) sos k = v | .inr v => pd (fn cs) sos k = v) (loop_ex (L := fun s : List Int × Int × Int => ref14_context_L2 s.1 s.2.1 s.2.2) (fun s => ∃ m : Nat, m ≤ k ∧ s = (cs, sos, (m : Int) - 1) ∧ pd (fn cs) sos k = pd (fn cs) sos m) (fun s => (s.2.2 + 1).toNat) ?_ ⟨k, Nat.le_refl _, rfl, rfl⟩) (fun v h => Post.pure (show v = _ from h.symm)) (fun v h => Post.pure (show v = _ from h.symm)))
 rintro s ⟨m, hm, rfl, h⟩
 dsimp only
 unfold ref14_context_L2
 cases m with
 | zero => exact Post.brF (by rw [decide_eq_false_iff_not]; omega) (Post.pure h)
 | succ m =>
  rw [show ((m + 1 : Nat) : Int) - 1 = (m : Int) by omega]
  refine Post.brT (by rw [decide_eq_true_eq]; omega) (Post.idx 0 m rfl (by omega) (Post.bnd (side_F _) ?_))
  rw [show pd (fn cs) sos (m + 1) = if dir (fn cs m) = 13 then pd (fn cs) sos m else dir (fn cs m) from rfl] at h
  have hd := dir_cases (cs.getD m 0)
  by_cases e : dir (cs.getD m 0) = 13
  ·rw [if_pos e] at h
   have hs : sid (cs.getD m 0) = -1 := if_pos e
   rw [hs]
   refine Post.brF (by decide) (Post.pure ?_)
   rw [wrap64 (by omega) (by omega)]
   exact ⟨⟨m, by omega, rfl, h⟩, by dsimp only; omega⟩
  ·rw [if_neg e] at h
   have hs : sid (cs.getD m 0) = dir (cs.getD m 0) := if_neg e
   exact Post.brT (by rw [decide_eq_true_eq, hs]; omega) (Post.idx 0 m rfl (by omega) (Post.bnd (side_F _) (Post.pure (by rw [hs]; exact h))))
theorem copied_F (cs : List Int) (hn : cs.length ≤ 4194304) : ref14_copied_F cs = some cs := by
 unfold ref14_copied_F ref14_copied_T
 exact Post.run (Post.bnd (app_eq (by simp; omega)) (Post.pure rfl))
theorem ints_F (cs : List Int) (hn : cs.length ≤ 4194304) (hc : Cls cs) : law10_Ints_F cs = some cs := by
 unfold law10_Ints_F law10_Ints_T
 refine Post.run (Post.bnd (count (L := fun s : List Int × List Int × Int × Int => law10_Ints_L3 s.1 s.2.1 s.2.2.1 s.2.2.2) cs.length (fun k => (tab k (fn cs), cs, (cs.length : Int), (k : Int))) (r := cs) rfl (fun k hk => ?_) ?_) (Post.pure rfl))
 ·dsimp only
  unfold law10_Ints_L3
  have := hc k
  refine Post.brT (by rw [decide_eq_true_eq]; omega) (Post.idx 0 k rfl hk (Post.bnd (app_eq (by rw [tab_len]; simp; omega)) (Post.pure ?_)))
  rw [wrap_succ (by omega), wrap64 (by omega) (by omega), ← tab_succ]
 ·dsimp only
  unfold law10_Ints_L3
  exact Post.brF (by simp) (Post.pure (by rw [← tab_self]))
theorem find_both (st : List (Int × Int)) (kn : Int) (sides ids mate : List Int) (t : Nat) (ht : t < ids.length) (hid : ids.getD t 0 = kn) (hst : ∀ q ∈ st, 0 ≤ q.1 ∧ q.1 < ids.length ∧ ids.getD q.1.toNat 0 = q.2) (hn : st.length ≤ 4194304) : ∀ k : Nat, k ≤ st.length →
  ∃ v : Int, v < k ∧ (v = -1 ∨ 0 ≤ v) ∧ loopW (fun s : List (Int × Int) × Int × Int => (pairs_find_L2 s.1 s.2.1 s.2.2).run) (st, kn, (k : Int) - 1) = some (if v < 0 then .inl () else .inr v) ∧
   loopW (fun s : List Int × List Int × List Int × List Int × Int × Int => (ref14_Pairs_L15 s.1 s.2.1 s.2.2.1 s.2.2.2.1 s.2.2.2.2.1 s.2.2.2.2.2).run) (sides, ids, mate, st.map Prod.fst, (t : Int), (k : Int) - 1) = some (sides, ids, mate, st.map Prod.fst, (t : Int), v)
 | 0, _ => ⟨-1, by omega, .inl rfl, loopW_done (Post.run (by
   dsimp only
   unfold pairs_find_L2
   exact Post.brF (decide_eq_false (by omega)) (Post.pure (by simp)))), loopW_done (Post.run (by
   dsimp only
   unfold ref14_Pairs_L15
   exact Post.brF (decide_eq_false (by omega)) (Post.pure (by simp))))⟩
 | k + 1, h => by
  have hk : ((k + 1 : Nat) : Int) - 1 = (k : Int) := by omega
  have hw : IntKind.i64.wrap ((k : Int) - 1) = (k : Int) - 1 := wrap64 (by omega) (by omega)
  have hq := hst st[k] (List.getElem_mem h)
  have hm : (st.map Prod.fst).getD k 0 = st[k].1 := by simp [List.getD, show k < st.length from h]
  rw [hk]
  by_cases e : st[k].2 = kn
  ·refine ⟨k, by omega, .inr (by omega), loopW_done (Post.run ?_), loopW_done (Post.run ?_)⟩
   ·dsimp only
    unfold pairs_find_L2
    exact Post.brT (decide_eq_true (by omega)) (Post.bnd (idx_get (k := k) rfl h) (Post.brT (by simpa using e) (Post.pure (by rw [if_neg (by omega)]))))
   ·dsimp only
    unfold ref14_Pairs_L15
    refine Post.brT (decide_eq_true (by omega)) (Post.idx 0 k rfl (by rw [List.length_map]; exact h) ?_)
    rw [hm]
    refine Post.idx 0 st[k].1.toNat (by omega) (by omega) (Post.idx 0 t rfl ht (Post.brF ?_ (Post.pure rfl)))
    rw [hq.2.2, hid, e]
    simp
  ·obtain ⟨v, h1, h2, h3, h4⟩ := find_both st kn sides ids mate t ht hid hst hn k (by omega)
   refine ⟨v, by omega, h2, loopW_next (Post.run ?_) h3, loopW_next (Post.run ?_) h4⟩
   ·dsimp only
    unfold pairs_find_L2
    refine Post.brT (decide_eq_true (by omega)) (Post.bnd (idx_get (k := k) rfl h) (Post.brF (by simpa using e) (Post.pure ?_)))
    rw [hw]
   ·dsimp only
    unfold ref14_Pairs_L15
    refine Post.brT (decide_eq_true (by omega)) (Post.idx 0 k rfl (by rw [List.length_map]; exact h) ?_)
    rw [hm]
    refine Post.idx 0 st[k].1.toNat (by omega) (by omega) (Post.idx 0 t rfl ht (Post.brT ?_ (Post.pure ?_)))
    ·rw [hq.2.2, hid]; simpa using e
    ·rw [hw]
def Rl (n : Nat) (c m : List Int) : Prop := c.length = n ∧ m.length = n ∧ ∀ i, i < n → (c.getD i 0 = 0 ∧ m.getD i 0 = -1) ∨ (0 < c.getD i 0 ∧ m.getD i 0 = c.getD i 0)
theorem rl_set {n : Nat} {c m : List Int} (h : Rl n c m) {p t : Nat} (hp : p < n) (ht : 0 < t) : Rl n (c.set p t) (m.set p t) := by
 refine ⟨by rw [List.length_set]; exact h.1, by rw [List.length_set]; exact h.2.1, fun i hi => ?_⟩
 simp only [List.getD, List.getElem?_set]
 by_cases e : p = i
 ·rw [if_pos e, if_pos e, if_pos (by rw [h.1]; exact hp), if_pos (by rw [h.2.1]; exact hp)]
  right
  simp only [Option.getD_some]
  exact ⟨by omega, trivial⟩
 ·rw [if_neg e, if_neg e]; exact h.2.2 i hi
abbrev sdOf (rs cs : List Int) (i : Nat) : Int := if cs.getD i 0 = 13 then (brV (rs.getD i 0)).1 else 0
abbrev idOf (rs : List Int) (i : Nat) : Int := (brV (rs.getD i 0)).2
def Out (rs cs : List Int) (n t : Nat) (c m : List Int) (st : List (Int × Int)) : Prop :=
  ∃ z c' m', (z = .inl c' ∨ z = .inr c') ∧ Rl n c' m' ∧
   loopW (fun s : List Int × List Int × List Int × (List (Int × Int)) × Int × Int => (pairs_closings_L5 s.1 s.2.1 s.2.2.1 s.2.2.2.1 s.2.2.2.2.1 s.2.2.2.2.2).run) (rs, cs, c, st, (n : Int), (t : Int)) = some z ∧
   loopW (fun s : List Int × List Int × List Int × List Int × Int => (ref14_Pairs_L8 s.1 s.2.1 s.2.2.1 s.2.2.2.1 s.2.2.2.2).run) (tab n (sdOf rs cs), tab n (idOf rs), m, st.map Prod.fst, (t : Int)) = some m'
theorem mates (rs cs : List Int) {n : Nat} (h1 : rs.length = n) (h2 : cs.length = n) (hn : n ≤ 4194304) : ∀ (d t : Nat) (c m : List Int) (st : List (Int × Int)), n = t + d → Rl n c m → st.length ≤ t → (∀ q ∈ st, 0 ≤ q.1 ∧ q.1 < t ∧ idOf rs q.1.toNat = q.2) → Out rs cs n t c m st
 | 0, t, c, m, st, h, hr, hl, hq => ⟨.inl c, c, m, .inl rfl, hr, loopW_done (Post.run (by
   dsimp only
   unfold pairs_closings_L5
   exact Post.brF (decide_eq_false (by omega)) (Post.pure rfl))), loopW_done (Post.run (by
   dsimp only
   unfold ref14_Pairs_L8
   exact Post.brF (decide_eq_false (by rw [tab_len]; omega)) (Post.pure rfl)))⟩
 | d + 1, t, c, m, st, h, hr, hl, hq => by
  have ht : t < n := by omega
  have hw : IntKind.i64.wrap ((t : Int) + 1) = ((t + 1 : Nat) : Int) := wrap_succ (by omega)
  have next : ∀ {c2 m2 : List Int} {st2 : List (Int × Int)}, Rl n c2 m2 → st2.length ≤ t + 1 → (∀ q ∈ st2, 0 ≤ q.1 ∧ q.1 < ((t + 1 : Nat) : Int) ∧ idOf rs q.1.toNat = q.2) →
    Post (pairs_closings_L5 rs cs c st (n : Int) (t : Int)) (· = .next (rs, cs, c2, st2, (n : Int), ((t + 1 : Nat) : Int))) →
    Post (ref14_Pairs_L8 (tab n (sdOf rs cs)) (tab n (idOf rs)) m (st.map Prod.fst) (t : Int)) (· = .next (tab n (sdOf rs cs), tab n (idOf rs), m2, st2.map Prod.fst, ((t + 1 : Nat) : Int))) → Out rs cs n t c m st := fun a b e p q => by
   obtain ⟨z, c', m', x, y, u, v⟩ := mates rs cs h1 h2 hn d (t + 1) _ _ _ (by omega) a b e
   exact ⟨z, c', m', x, y, loopW_next (Post.run p) u, loopW_next (Post.run q) v⟩
  have hq' : ∀ q ∈ st, 0 ≤ q.1 ∧ q.1 < ((t + 1 : Nat) : Int) ∧ idOf rs q.1.toNat = q.2 := fun q h => by have := hq q h; exact ⟨this.1, by omega, this.2.2⟩
  by_cases e1 : cs.getD t 0 = 13
  ·have es : sdOf rs cs t = (brV (rs.getD t 0)).1 := if_pos e1
   by_cases s1 : (brV (rs.getD t 0)).1 = 1
   ·by_cases e63 : st.length = 63
    ·refine ⟨.inr c, c, m, .inr rfl, hr, loopW_done (Post.run ?_), loopW_done (Post.run ?_)⟩
     ·dsimp only
      unfold pairs_closings_L5
      exact Post.brT (decide_eq_true (by omega)) (Post.idx 0 t rfl (by omega) (Post.brF (by simpa using e1) (Post.idx 0 t rfl (by omega) (Post.bnd (brack_F _) (Post.brT (by simpa using s1) (Post.brT (by rw [e63]; rfl) (Post.pure rfl)))))))
     ·dsimp only
      unfold ref14_Pairs_L8
      exact Post.brT (decide_eq_true (by rw [tab_len]; omega)) (ptab t rfl ht (Post.brT (by rw [es]; simpa using s1) (Post.brT (by rw [List.length_map, e63]; rfl) (Post.pure rfl))))
    ·refine next (st2 := st ++ [((t : Int), (brV (rs.getD t 0)).2)]) hr (by rw [List.length_append, List.length_singleton]; omega) (fun q h => ?_) ?_ ?_
     ·rcases List.mem_append.1 h with h | h
      ·exact hq' q h
      ·rw [List.mem_singleton.1 h]; exact ⟨by dsimp only; omega, by dsimp only; omega, rfl⟩
     ·unfold pairs_closings_L5
      refine Post.brT (decide_eq_true (by omega)) (Post.idx 0 t rfl (by omega) (Post.brF (by simpa using e1) (Post.idx 0 t rfl (by omega) (Post.bnd (brack_F _) (Post.brT (by simpa using s1) (Post.brF (by rw [beq_eq_false_iff_ne]; omega) (Post.bnd (app_eq (by simp only [List.length_singleton]; omega)) (Post.pure ?_))))))))
      rw [hw]
     ·unfold ref14_Pairs_L8
      refine Post.brT (decide_eq_true (by rw [tab_len]; omega)) (ptab t rfl ht (Post.brT (by rw [es]; simpa using s1) (Post.brF (by rw [List.length_map, beq_eq_false_iff_ne]; omega) (Post.bnd (app_eq (by simp only [List.length_map, List.length_singleton]; omega)) (ptab t rfl ht (Post.brT (by rw [es, s1]; rfl) (Post.pure ?_)))))))
      rw [hw, List.map_append]
      rfl
   ·by_cases s2 : (brV (rs.getD t 0)).1 = 2
    ·obtain ⟨v, v1, v2, f1, f2⟩ := find_both st (brV (rs.getD t 0)).2 (tab n (sdOf rs cs)) (tab n (idOf rs)) m t (by rw [tab_len]; exact ht) (by rw [tab_getD _ _ ht]) (fun q h => by
      have := hq q h
      exact ⟨this.1, by rw [tab_len]; omega, by rw [tab_getD _ _ (by omega)]; exact this.2.2⟩) (by omega) st.length (Nat.le_refl _)
     have hwl : IntKind.i64.wrap ((st.length : Int) - 1) = (st.length : Int) - 1 := wrap64 (by omega) (by omega)
     have hf : pairs_find_F st (brV (rs.getD t 0)).2 = some v := by
      unfold pairs_find_F pairs_find_T
      rw [hwl]
      by_cases hv : v < 0
      ·rw [if_pos hv] at f1
       exact Post.run (Post.altL f1 (Post.pure (by omega)))
      ·rw [if_neg hv] at f1
       exact Post.run (Post.altR f1 (Post.pure rfl))
     by_cases hv : v < 0
     ·refine next hr (by omega) hq' ?_ ?_
      ·unfold pairs_closings_L5
       refine Post.brT (decide_eq_true (by omega)) (Post.idx 0 t rfl (by omega) (Post.brF (by simpa using e1) (Post.idx 0 t rfl (by omega) (Post.bnd (brack_F _) (Post.brF (by simpa using s1) (Post.brT (by simpa using s2) (Post.bnd hf (Post.brF (decide_eq_false (by omega)) (Post.pure ?_)))))))))
       rw [hw]
      ·unfold ref14_Pairs_L8
       rw [List.length_map, hwl]
       refine Post.brT (decide_eq_true (by rw [tab_len]; omega)) (ptab t rfl ht (Post.brF (by rw [es]; simpa using s1) (ptab t rfl ht (Post.brF (by rw [es, s2]; rfl) (Post.bnd f2 (Post.brF (decide_eq_false (by dsimp only; omega)) (Post.pure ?_)))))))
       dsimp only
       rw [hw]
     ·obtain ⟨k, rfl⟩ : ∃ k : Nat, v = (k : Int) := ⟨v.toNat, by omega⟩
      have hk : k < st.length := by omega
      have hm := hq st[k] (List.getElem_mem hk)
      have hg : (st.map Prod.fst).getD k 0 = st[k].1 := by simp [List.getD, hk]
      refine next (st2 := st.take k) (c2 := c.set st[k].1.toNat t) (m2 := m.set st[k].1.toNat t) (rl_set hr (by omega) (by omega)) (by rw [List.length_take]; omega) (fun q h => hq' q (List.mem_of_mem_take h)) ?_ ?_
      ·unfold pairs_closings_L5
       refine Post.brT (decide_eq_true (by omega)) (Post.idx 0 t rfl (by omega) (Post.brF (by simpa using e1) (Post.idx 0 t rfl (by omega) (Post.bnd (brack_F _) (Post.brF (by simpa using s1) (Post.brT (by simpa using s2) (Post.bnd hf (Post.brT (decide_eq_true (by omega)) (Post.bnd (idx_get (k := k) rfl hk) (Post.idx 0 st[k].1.toNat (by omega) (by rw [hr.1]; omega) (Post.bnd (cut_take (n := k) rfl (by omega)) (Post.pure ?_))))))))))))
       rw [hw]
      ·unfold ref14_Pairs_L8
       rw [List.length_map, hwl]
       refine Post.brT (decide_eq_true (by rw [tab_len]; omega)) (ptab t rfl ht (Post.brF (by rw [es]; simpa using s1) (ptab t rfl ht (Post.brF (by rw [es, s2]; rfl) (Post.bnd f2 (Post.brT (decide_eq_true (by dsimp only; omega)) (Post.idx 0 k rfl (by rw [List.length_map]; exact hk) ?_)))))))
       dsimp only
       rw [hg]
       refine Post.idx 0 st[k].1.toNat (by omega) (by rw [hr.2.1]; omega) (Post.bnd (cut_take (n := k) rfl (by rw [List.length_map]; omega)) (Post.pure ?_))
       rw [hw, List.map_take]
    ·refine next hr (by omega) hq' ?_ ?_
     ·unfold pairs_closings_L5
      refine Post.brT (decide_eq_true (by omega)) (Post.idx 0 t rfl (by omega) (Post.brF (by simpa using e1) (Post.idx 0 t rfl (by omega) (Post.bnd (brack_F _) (Post.brF (by simpa using s1) (Post.brF (by simpa using s2) (Post.pure ?_)))))))
      rw [hw]
     ·unfold ref14_Pairs_L8
      refine Post.brT (decide_eq_true (by rw [tab_len]; omega)) (ptab t rfl ht (Post.brF (by rw [es]; simpa using s1) (ptab t rfl ht (Post.brT (by rw [es]; simpa using s2) (Post.pure ?_)))))
      rw [hw]
  ·have es : sdOf rs cs t = 0 := if_neg e1
   refine next hr (by omega) hq' ?_ ?_
   ·unfold pairs_closings_L5
    refine Post.brT (decide_eq_true (by omega)) (Post.idx 0 t rfl (by omega) (Post.brT (by simpa using e1) (Post.pure ?_)))
    rw [hw]
   ·unfold ref14_Pairs_L8
    refine Post.brT (decide_eq_true (by rw [tab_len]; omega)) (ptab t rfl ht (Post.brF (by rw [es]; rfl) (ptab t rfl ht (Post.brT (by rw [es]; rfl) (Post.pure ?_)))))
    rw [hw]
@[reducible] def two (p : Int × Int) : List Int := [p.1, p.2]
theorem mirrors_F : ref04_Mirrors_F = some (gtab.map two) := by kernel_rfl
theorem rlen : (gtab.map two).length = 35 := rfl
theorem map_at {k : Nat} (hk : k < gtab.length) : (gtab.map two).getD k [] = two (gtab.getD k pz) := by simp [List.getD, hk]
theorem two0 (p : Int × Int) : idx (two p) 0 = some p.1 := rfl
theorem two1 (p : Int × Int) : idx (two p) 1 = some p.2 := rfl
@[reducible] def plainL : List Int := [60, 171, 8249, 8712, 8713, 8804, 8806, 8810, 8834, 8838, 65308]
theorem plain_F : ref04_Plain_F = some plainL := rfl
theorem plain_mem (a : Int) : isBr a = false ↔ a ∈ plainL := by
 unfold isBr plainL
 simp
 omega
theorem rplain_F {x : Int} {k : Nat} (hk : k < 35) : ∃ r, loopW (fun s : Int × List (List Int) × Int × List Int × Int => (ref04_Bracket_L8 s.1 s.2.1 s.2.2.1 s.2.2.2.1 s.2.2.2.2).run) (x, gtab.map two, (k : Int), plainL, 0) = some r ∧
  (match r with | .inl r => r = (x, gtab.map two, (k : Int)) ∧ isBr (gtab.getD k pz).1 = true | .inr r => r = (0, 0) ∧ isBr (gtab.getD k pz).1 = false) := by
 have hg : k < gtab.length := by rw [glen]; exact hk
 have hi := idx_getD (xs := gtab.map two) [] (i := (k : Int)) rfl (by rw [rlen]; exact hk)
 rw [map_at hg] at hi
 refine loop_ex (L := fun s : Int × List (List Int) × Int × List Int × Int => ref04_Bracket_L8 s.1 s.2.1 s.2.2.1 s.2.2.2.1 s.2.2.2.2) (fun s => ∃ j : Nat, j ≤ 11 ∧ s = (x, gtab.map two, (k : Int), plainL, (j : Int)) ∧ ∀ i, i < j → plainL.getD i 0 ≠ (gtab.getD k pz).1) (fun s => 11 - s.2.2.2.2.toNat) ?_ ⟨0, by omega, rfl, fun i h => by omega⟩
 rintro s ⟨j, hj, rfl, h⟩
 dsimp only
 unfold ref04_Bracket_L8
 generalize gtab.getD k pz = p at *
 have hl : plainL.length = 11 := rfl
 by_cases e : j < 11
 ·refine Post.brT (by rw [decide_eq_true_eq, hl]; omega) (Post.idx 0 j rfl (by rw [hl]; exact e) (Post.bnd hi (Post.bnd (two0 p) ?_)))
  by_cases h1 : plainL.getD j 0 = p.1
  ·refine Post.brT (beq_iff_eq.2 h1) (Post.pure ⟨rfl, (plain_mem _).2 ?_⟩)
   rw [← h1]
   rw [show plainL.getD j 0 = plainL[j] by simp [List.getD, hl, e]]
   exact List.getElem_mem _
  ·refine Post.brF (beq_eq_false_iff_ne.2 h1) (Post.pure ?_)
   rw [wrap_succ (by omega)]
   refine ⟨⟨j + 1, e, rfl, fun i hi => ?_⟩, by dsimp only; omega⟩
   rcases Nat.lt_or_ge i j with g | g
   ·exact h i g
   ·rw [show i = j by omega]; exact h1
 ·refine Post.brF (by rw [decide_eq_false_iff_not, hl]; omega) (Post.pure ⟨rfl, ?_⟩)
  cases hb : isBr p.1 with
  | true => rfl
  | false =>
   obtain ⟨i, hi, hm⟩ := List.getElem_of_mem ((plain_mem _).1 hb)
   exact absurd (show plainL.getD i 0 = p.1 by simp only [List.getD, List.getElem?_eq_getElem hi, Option.getD_some]; exact hm) (h i (by rw [hl] at hi; omega))
theorem rbrack_F (x : Int) : ref04_Bracket_F x = some (rbV x) := by
 unfold ref04_Bracket_F ref04_Bracket_T
 refine Post.run (Post.bnd mirrors_F (Post.alt (R := fun r => match r with | .inl _ => rb1 gtab x = none | .inr r => rb1 gtab x = some r) (loop_ex (L := fun s : Int × List (List Int) × Int => ref04_Bracket_L3 s.1 s.2.1 s.2.2) (fun s => ∃ k : Nat, k ≤ 35 ∧ s = (x, gtab.map two, (k : Int)) ∧ rb1 gtab x = rb1 (gtab.drop k) x) (fun s => 35 - s.2.2.toNat) ?_ ⟨0, by omega, rfl, rfl⟩) ?_ ?_))
 ·rintro s ⟨k, hk, rfl, h⟩
  dsimp only
  unfold ref04_Bracket_L3
  by_cases e : k < 35
  ·have hg : k < gtab.length := by rw [glen]; exact e
   rw [drop_cons hg] at h
   have hi := idx_getD (xs := gtab.map two) [] (i := (k : Int)) rfl (by rw [rlen]; exact e)
   rw [map_at hg] at hi
   have hp := rplain_F (x := x) e
   generalize gtab.getD k pz = p at *
   unfold rb1 at h
   refine Post.brT (by rw [decide_eq_true_eq, rlen]; omega) (Post.bnd hi (Post.bnd (two0 p) ?_))
   have tail : ∀ {Q : Lap (Int × List (List Int) × Int) (Sum Unit (Int × Int)) → Prop}, (∀ v, rb1 gtab x = some v → Q (.done (.inr v))) → (isBr p.1 = false → rb1 gtab x = some (0, 0)) → (isBr p.1 = true → rb1 gtab x = if p.1 = x then some (1, kn p.1) else some (2, kn p.1)) → ∀ {A : Tr (Lap (Int × List (List Int) × Int) (Sum Unit (Int × Int)))}, A = Tr.bnd ref04_Plain_F (fun c_18 =>
     .alt (loopW (fun s => (ref04_Bracket_L8 s.1 s.2.1 s.2.2.1 s.2.2.2.1 s.2.2.2.2).run) (x, gtab.map two, (k : Int), c_18, 0)) (fun l_19 =>
      .bnd (idx l_19.2.1 l_19.2.2) fun x_20 => .bnd (idx x_20 0) fun x_21 => .br (x_21 == 9001) (
       .bnd (idx l_19.2.1 l_19.2.2) fun x_22 => .bnd (idx x_22 0) fun x_23 => .br (x_23 == l_19.1) (.pure (.done (.inr (1, 12296)))) (.pure (.done (.inr (2, 12296))))) (
       .bnd (idx l_19.2.1 l_19.2.2) fun x_24 => .bnd (idx x_24 0) fun x_25 => .br (x_25 == l_19.1) (.pure (.done (.inr (1, x_21)))) (.pure (.done (.inr (2, x_21)))))) (fun l_26 =>
      .pure (.done (.inr (l_26.1, l_26.2))))) → Post A Q := by
    intro Q hQ g0 g1 A hA
    rw [hA]
    obtain ⟨r, q1, q2⟩ := hp
    refine Post.bnd plain_F ?_
    cases r with
    | inl r =>
     obtain ⟨rfl, hb⟩ := q2
     refine Post.altL q1 (Post.bnd hi (Post.bnd (two0 p) ?_))
     have g1 := g1 hb
     unfold kn at g1
     by_cases h9 : p.1 = 9001
     ·rw [if_pos h9] at g1
      refine Post.brT (beq_iff_eq.2 h9) (Post.bnd hi (Post.bnd (two0 p) ?_))
      by_cases h1 : p.1 = x
      ·rw [if_pos h1] at g1
       exact Post.brT (beq_iff_eq.2 h1) (Post.pure (hQ _ g1))
      ·rw [if_neg h1] at g1
       exact Post.brF (beq_eq_false_iff_ne.2 h1) (Post.pure (hQ _ g1))
     ·rw [if_neg h9] at g1
      refine Post.brF (beq_eq_false_iff_ne.2 h9) (Post.bnd hi (Post.bnd (two0 p) ?_))
      by_cases h1 : p.1 = x
      ·rw [if_pos h1] at g1
       exact Post.brT (beq_iff_eq.2 h1) (Post.pure (hQ _ g1))
      ·rw [if_neg h1] at g1
       exact Post.brF (beq_eq_false_iff_ne.2 h1) (Post.pure (hQ _ g1))
    | inr r =>
     obtain ⟨rfl, hb⟩ := q2
     exact Post.altR q1 (Post.pure (hQ _ (g0 hb)))
   by_cases h1 : p.1 = x
   ·rw [if_neg (fun g => g.1 h1)] at h
    exact Post.brF (by simpa using h1) (tail (fun v hv => hv) (fun hb => by rw [if_pos hb] at h; exact h) (fun hb => by rw [if_neg (by rw [hb]; simp)] at h; exact h) rfl)
   ·refine Post.brT (by simpa using h1) (Post.bnd hi (Post.bnd (two1 p) ?_))
    by_cases h2 : p.2 = x
    ·rw [if_neg (fun g => g.2 h2)] at h
     exact Post.brF (by simpa using h2) (tail (fun v hv => hv) (fun hb => by rw [if_pos hb] at h; exact h) (fun hb => by rw [if_neg (by rw [hb]; simp)] at h; exact h) rfl)
    ·rw [if_pos ⟨h1, h2⟩] at h
     refine Post.brT (by simpa using h2) (Post.pure ?_)
     rw [wrap_succ (by omega)]
     exact ⟨⟨k + 1, e, rfl, h⟩, by dsimp only; omega⟩
  ·refine Post.brF (by rw [decide_eq_false_iff_not, rlen]; omega) (Post.pure ?_)
   show rb1 gtab x = none
   rw [h, List.drop_of_length_le (by rw [glen]; omega)]
   rfl
 ·intro b h
  have h : rb1 gtab x = none := h
  exact Post.pure (by unfold rbV; rw [h])
 ·intro y h
  have h : rb1 gtab x = some y := h
  exact Post.pure (by unfold rbV; rw [h])
theorem brV_tab : ∀ p ∈ gtab, brV p.1 = rbV p.1 ∧ brV p.2 = rbV p.2 := by decide +kernel
theorem rbV_eq (x : Int) : rbV x = brV x := by
 rcases on_or_off x with h | ⟨p, hp, rfl | rfl⟩
 ·rw [brV_off h, rbV_off h]
 ·exact (brV_tab p hp).1.symm
 ·exact (brV_tab p hp).2.symm
abbrev two' (q : Int × Int) : List Int := [q.1, q.2]
theorem collect {n : Nat} (hn : n ≤ 4194304) {c m : List Int} (h : Rl n c m) : ∀ (d t : Nat) (ps : List (Int × Int)), n = t + d → ps.length ≤ t →
  ∃ r, loopW (fun s : List (Int × Int) × List Int × Int × Int => (pairs_Of_L4 s.1 s.2.1 s.2.2.1 s.2.2.2).run) (ps, c, (n : Int), (t : Int)) = some r ∧
   loopW (fun s : List Int × List (List Int) × Int => (ref14_Pairs_L22 s.1 s.2.1 s.2.2).run) (m, ps.map two', (t : Int)) = some (r.map two')
 | 0, t, ps, ht, hl => ⟨ps, loopW_done (Post.run (by
   dsimp only
   unfold pairs_Of_L4
   exact Post.brF (decide_eq_false (by omega)) (Post.pure rfl))), loopW_done (Post.run (by
   dsimp only
   unfold ref14_Pairs_L22
   exact Post.brF (decide_eq_false (by rw [h.2.1]; omega)) (Post.pure rfl)))⟩
 | d + 1, t, ps, ht, hl => by
  have htn : t < n := by omega
  have hw : IntKind.i64.wrap ((t : Int) + 1) = ((t + 1 : Nat) : Int) := wrap_succ (by omega)
  rcases h.2.2 t htn with ⟨c0, m0⟩ | ⟨c0, m0⟩
  ·obtain ⟨r, h1, h2⟩ := collect hn h d (t + 1) ps (by omega) (by omega)
   refine ⟨r, loopW_next (Post.run ?_) h1, loopW_next (Post.run ?_) h2⟩
   ·dsimp only
    unfold pairs_Of_L4
    refine Post.brT (decide_eq_true (by omega)) (Post.idx 0 t rfl (by rw [h.1]; exact htn) (Post.brF (decide_eq_false (by omega)) (Post.pure ?_)))
    rw [hw]
   ·dsimp only
    unfold ref14_Pairs_L22
    refine Post.brT (decide_eq_true (by rw [h.2.1]; omega)) (Post.idx 0 t rfl (by rw [h.2.1]; exact htn) (Post.brF (decide_eq_false (by omega)) (Post.pure ?_)))
    rw [hw]
  ·obtain ⟨r, h1, h2⟩ := collect hn h d (t + 1) (ps ++ [((t : Int), c.getD t 0)]) (by omega) (by rw [List.length_append, List.length_singleton]; omega)
   refine ⟨r, loopW_next (Post.run ?_) h1, loopW_next (Post.run ?_) h2⟩
   ·dsimp only
    unfold pairs_Of_L4
    refine Post.brT (decide_eq_true (by omega)) (Post.idx 0 t rfl (by rw [h.1]; exact htn) (Post.brT (decide_eq_true (by omega)) (Post.bnd (app_eq (by simp only [List.length_singleton]; omega)) (Post.pure ?_))))
    rw [hw]
   ·dsimp only
    unfold ref14_Pairs_L22
    refine Post.brT (decide_eq_true (by rw [h.2.1]; omega)) (Post.idx 0 t rfl (by rw [h.2.1]; exact htn) (Post.brT (decide_eq_true (by omega)) (Post.idx 0 t rfl (by rw [h.2.1]; exact htn) (Post.bnd (app_eq (by simp only [List.length_map, List.length_singleton]; omega)) (Post.pure ?_)))))
    rw [hw, m0, List.map_append]
    rfl
theorem fill_m (sides ids : List Int) {n : Nat} (hn : n ≤ 4194304) : loopW (fun s : List Int × List Int × List Int × Int => (ref14_Pairs_L3 s.1 s.2.1 s.2.2.1 s.2.2.2).run) (sides, ids, tab n (fun _ => 0), 0) = some (sides, ids, tab n (fun _ => -1)) := by
 refine count (L := fun s : List Int × List Int × List Int × Int => ref14_Pairs_L3 s.1 s.2.1 s.2.2.1 s.2.2.2) n (fun k => (sides, ids, tab n (part (fun _ => -1) (fun _ => 0) k), (k : Int))) rfl (fun k hk => ?_) ?_
 ·dsimp only
  unfold ref14_Pairs_L3
  refine Post.brT (decide_eq_true (by rw [tab_len]; omega)) (ptab k rfl hk (Post.pure ?_))
  rw [wrap_succ (by omega), toNat_nat, part_set n (m := fun _ => (-1 : Int)) (k := k) rfl]
 ·dsimp only
  unfold ref14_Pairs_L3
  exact Post.brF (decide_eq_false (by rw [tab_len]; omega)) (Post.pure (by rw [part_end]))
theorem want_same (rs cs : List Int) {n : Nat} (h1 : rs.length = n) (h2 : cs.length = n) (hn : n ≤ 4194304) (w : ∀ x ∈ rs, -2147483648 ≤ x ∧ x ≤ 2147483647) : ∃ ps, pairs_Of_F rs cs = some ps ∧ law15_Want_F rs cs = some (ps.map two') := by
 have hr0 : Rl n (List.replicate n 0) (tab n (fun _ => -1)) := ⟨List.length_replicate .., tab_len _ _, fun i hi => .inl ⟨by simp [List.getD, hi], tab_getD _ _ hi⟩⟩
 obtain ⟨z, c, m, hz, hr, u, v⟩ := mates rs cs h1 h2 hn n 0 _ _ [] (by omega) hr0 (Nat.le_refl _) (fun q h => by cases h)
 obtain ⟨ps, g1, g2⟩ := collect hn hr n 0 [] (by omega) (Nat.le_refl _)
 have hc : pairs_closings_F rs cs = some c := by
  unfold pairs_closings_F pairs_closings_T
  rw [h1, h2, if_neg (by omega)]
  rcases hz with rfl | rfl
  ·exact Post.run (Post.bnd (mk_eq (k := n) rfl (by omega)) (Post.altL u (Post.pure rfl)))
  ·exact Post.run (Post.bnd (mk_eq (k := n) rfl (by omega)) (Post.altR u (Post.pure rfl)))
 refine ⟨ps, ?_, ?_⟩
 ·unfold pairs_Of_F pairs_Of_T
  refine Post.run (Post.bnd hc ?_)
  rw [hr.1]
  exact Post.bnd g1 (Post.pure rfl)
 ·have hw : loopW (fun s : List Int × List Int × List Int × List Int × Int => (law15_Want_L3 s.1 s.2.1 s.2.2.1 s.2.2.2.1 s.2.2.2.2).run) (rs, cs, [], [], 0) = some (tab n (sdOf rs cs), tab n (idOf rs)) := by
   refine count (L := fun s : List Int × List Int × List Int × List Int × Int => law15_Want_L3 s.1 s.2.1 s.2.2.1 s.2.2.2.1 s.2.2.2.2) n (fun k => (rs, cs, tab k (sdOf rs cs), tab k (idOf rs), (k : Int))) rfl (fun k hk => ?_) ?_
   ·dsimp only
    unfold law15_Want_L3
    have hx : -2147483648 ≤ rs.getD k 0 ∧ rs.getD k 0 ≤ 2147483647 := by
     rw [List.getD_eq_getElem?_getD, List.getElem?_eq_getElem (by omega), Option.getD_some]
     exact w _ (List.getElem_mem _)
    refine Post.brT (decide_eq_true (by omega)) (Post.brT (decide_eq_true (by omega)) (Post.idx 0 k rfl (by omega) ?_))
    rw [wrap64 (n := rs.getD k 0) (by omega) (by omega)]
    refine Post.bnd (rbrack_F _) ?_
    rw [rbV_eq]
    refine Post.idx 0 k rfl (by omega) ?_
    by_cases e : cs.getD k 0 = 13
    ·refine Post.brF (by simpa using e) (Post.bnd (app_eq (by simp only [tab_len, List.length_singleton]; omega)) (Post.bnd (app_eq (by simp only [tab_len, List.length_singleton]; omega)) (Post.pure ?_)))
     rw [wrap_succ (by omega), ← tab_succ k (sdOf rs cs), ← tab_succ k (idOf rs), show sdOf rs cs k = (brV (rs.getD k 0)).1 from if_pos e]
    ·refine Post.brT (by simpa using e) (Post.bnd (app_eq (by simp only [tab_len, List.length_singleton]; omega)) (Post.bnd (app_eq (by simp only [tab_len, List.length_singleton]; omega)) (Post.pure ?_)))
     rw [wrap_succ (by omega), ← tab_succ k (sdOf rs cs), ← tab_succ k (idOf rs), show sdOf rs cs k = 0 from if_neg e]
   ·dsimp only
    unfold law15_Want_L3
    exact Post.brF (decide_eq_false (by omega)) (Post.pure rfl)
  unfold law15_Want_F law15_Want_T
  refine Post.run (Post.bnd hw (Post.bnd (b := ps.map two') ?_ (Post.pure rfl)))
  unfold ref14_Pairs_F ref14_Pairs_T
  dsimp only
  rw [tab_len]
  refine Post.run (Post.bnd (b := tab n (fun _ => (0 : Int))) (by rw [← tab_rep]; exact mk_eq (k := n) rfl (by omega)) (Post.bnd (fill_m _ _ hn) (Post.bnd v (Post.bnd g2 (Post.pure rfl)))))
theorem cls_set {xs : List Int} {v : Int} {i : Nat} (h : Cls xs) (hv : 0 ≤ v ∧ v ≤ 22) : Cls (xs.set i v) := fun k => by
 have hk := h k
 simp only [List.getD, List.getElem?_set] at hk ⊢
 by_cases e : i = k
 ·rw [if_pos e]
  by_cases e2 : i < xs.length
  ·rw [if_pos e2]; exact hv
  ·rw [if_neg e2]; exact ⟨by simp, by simp⟩
 ·rw [if_neg e]; exact hk
theorem turn_loop (first : List Int) (v : Int) (hv : 0 ≤ v ∧ v ≤ 22) {n : Nat} (hf : first.length = n) (hn : n ≤ 4194304) (ps0 : List (List Int)) (sos own i e : Int) : ∀ (d t : Nat) (xs : List Int), n = t + d → xs.length = n →
  ∃ r, r.length = n ∧ (Cls xs → Cls r) ∧ loopW (fun s : List Int × List Int × Int × Int => (neutral_turn_L2 s.1 s.2.1 s.2.2.1 s.2.2.2).run) (xs, first, v, (t : Int)) = some r ∧
   loopW (fun s : List (List Int) × List Int × Int × List Int × Int × Int × Int × Int × Int => (ref14_Brackets_L24 s.1 s.2.1 s.2.2.1 s.2.2.2.1 s.2.2.2.2.1 s.2.2.2.2.2.1 s.2.2.2.2.2.2.1 s.2.2.2.2.2.2.2.1 s.2.2.2.2.2.2.2.2).run) (ps0, first, sos, xs, own, i, v, e, (t : Int)) = some (ps0, first, sos, r, own, i, v, e)
 | 0, t, xs, ht, hx => ⟨xs, hx, id, loopW_done (Post.run (by
   dsimp only
   unfold neutral_turn_L2
   exact Post.brF (decide_eq_false (by omega)) (Post.pure rfl))), loopW_done (Post.run (by
   dsimp only
   unfold ref14_Brackets_L24
   exact Post.brF (decide_eq_false (by omega)) (Post.pure rfl)))⟩
 | d + 1, t, xs, ht, hx => by
  have htn : t < n := by omega
  have hw : IntKind.i64.wrap ((t : Int) + 1) = ((t + 1 : Nat) : Int) := wrap_succ (by omega)
  by_cases c : first.getD t 0 = 8
  ·obtain ⟨r, hr, hc, h1, h2⟩ := turn_loop first v hv hf hn ps0 sos own i e d (t + 1) (xs.set (Int.toNat (t : Int)) v) (by omega) (by rw [List.length_set]; exact hx)
   refine ⟨r, hr, fun h => hc (cls_set h hv), loopW_next (Post.run ?_) h1, loopW_next (Post.run ?_) h2⟩
   ·dsimp only
    unfold neutral_turn_L2
    refine Post.brT (decide_eq_true (by omega)) (Post.idx 0 t rfl (by omega) (Post.brT (by simpa using c) (Post.idx 0 t rfl (by omega) (Post.idx 0 t rfl (by omega) (Post.pure ?_)))))
    rw [hw]
   ·dsimp only
    unfold ref14_Brackets_L24
    refine Post.brT (decide_eq_true (by omega)) (Post.idx 0 t rfl (by omega) (Post.brT (by simpa using c) (Post.idx 0 t rfl (by omega) (Post.pure ?_))))
    rw [hw]
  ·refine ⟨xs, hx, id, loopW_done (Post.run ?_), loopW_done (Post.run ?_)⟩
   ·dsimp only
    unfold neutral_turn_L2
    exact Post.brT (decide_eq_true (by omega)) (Post.idx 0 t rfl (by omega) (Post.brF (by simpa using c) (Post.pure rfl)))
   ·dsimp only
    unfold ref14_Brackets_L24
    exact Post.brT (decide_eq_true (by omega)) (Post.idx 0 t rfl (by omega) (Post.brF (by simpa using c) (Post.pure rfl)))
theorem turn_both (first out : List Int) (v : Int) (hv : 0 ≤ v ∧ v ≤ 22) {n : Nat} (hf : first.length = n) (ho : out.length = n) (hn : n ≤ 4194304) (ps0 : List (List Int)) (sos own i e : Int) {p : Nat} (hp : p < n) :
  ∃ r, r.length = n ∧ (Cls out → Cls r) ∧ neutral_turn_F out first (p : Int) v = some (r, ()) ∧
   loopW (fun s : List (List Int) × List Int × Int × List Int × Int × Int × Int × Int × Int => (ref14_Brackets_L24 s.1 s.2.1 s.2.2.1 s.2.2.2.1 s.2.2.2.2.1 s.2.2.2.2.2.1 s.2.2.2.2.2.2.1 s.2.2.2.2.2.2.2.1 s.2.2.2.2.2.2.2.2).run) (ps0, first, sos, out.set (Int.toNat (p : Int)) v, own, i, v, e, ((p + 1 : Nat) : Int)) = some (ps0, first, sos, r, own, i, v, e) := by
 obtain ⟨r, hr, hc, h1, h2⟩ := turn_loop first v hv hf hn ps0 sos own i e (n - (p + 1)) (p + 1) (out.set (Int.toNat (p : Int)) v) (by omega) (by rw [List.length_set]; exact ho)
 refine ⟨r, hr, fun h => hc (cls_set h hv), ?_, h2⟩
 unfold neutral_turn_F neutral_turn_T
 rw [wrap_succ (by omega)]
 exact Post.run (Post.idx 0 p rfl (by omega) (Post.idx 0 p rfl (by omega) (Post.bnd h1 (Post.pure rfl))))
theorem inside_spec (cs : List Int) (e : Int) (he : e = 0 ∨ e = 1) (hn : cs.length ≤ 4194304) : ∃ v, neutral_inside_F cs e = some v ∧
  ((v = e ∧ ∃ j, j < cs.length ∧ dir (cs.getD j 0) = e) ∨ (v = 13 ∧ ∀ j, j < cs.length → dir (cs.getD j 0) = 13) ∨ (v ≠ e ∧ v ≠ 13 ∧ (∀ j, j < cs.length → dir (cs.getD j 0) ≠ e) ∧ ∃ j, j < cs.length ∧ dir (cs.getD j 0) = v)) := by
 unfold neutral_inside_F neutral_inside_T
 obtain ⟨z, hz, h⟩ := loop_ex (L := fun s : Int × Int × List Int × Int × Int => neutral_inside_L3 s.1 s.2.1 s.2.2.1 s.2.2.2.1 s.2.2.2.2)
  (I := fun s => ∃ (f : Int) (k : Nat), k ≤ cs.length ∧ (∀ j, j < k → dir (cs.getD j 0) ≠ e) ∧ ((f = 13 ∧ ∀ j, j < k → dir (cs.getD j 0) = 13) ∨ (f ≠ 13 ∧ ∃ j, j < k ∧ dir (cs.getD j 0) = f)) ∧ s = (e, f, cs, (cs.length : Int), (k : Int))) (m := fun s => cs.length - s.2.2.2.2.toNat)
  (R := fun z => (z = .inr e ∧ ∃ j, j < cs.length ∧ dir (cs.getD j 0) = e) ∨ ∃ f, z = .inl f ∧ (∀ j, j < cs.length → dir (cs.getD j 0) ≠ e) ∧ ((f = 13 ∧ ∀ j, j < cs.length → dir (cs.getD j 0) = 13) ∨ (f ≠ 13 ∧ ∃ j, j < cs.length ∧ dir (cs.getD j 0) = f))) (s0 := (e, 13, cs, (cs.length : Int), 0))
  (by
   rintro s ⟨f, k, hk, hne, hf, rfl⟩
   dsimp only
   unfold neutral_inside_L3
   refine Post.br (fun c => ?_) (fun c => Post.pure ?_)
   ·have c := of_decide_eq_true c
    rw [wrap_succ (by omega)]
    refine Post.idx 0 k rfl (by omega) (Post.bnd (dir_F _) (Post.br (fun c1 => Post.pure ?_) (fun c1 => Post.br (fun c2 => Post.pure ?_) (fun c2 => Post.pure ?_))))
    ·have c1 : dir (cs.getD k 0) = e := by simpa using c1
     exact .inl ⟨by rw [c1], k, by omega, c1⟩
    ·have c1 : dir (cs.getD k 0) ≠ e := by simpa using c1
     have c2 : dir (cs.getD k 0) ≠ 13 := by simpa using c2
     refine ⟨⟨_, k + 1, by omega, fun j hj => ?_, .inr ⟨c2, k, by omega, rfl⟩, rfl⟩, by dsimp only; omega⟩
     rcases Nat.lt_or_ge j k with h | h
     ·exact hne j h
     ·rw [show j = k by omega]; exact c1
    ·have c1 : dir (cs.getD k 0) ≠ e := by simpa using c1
     have c2 : dir (cs.getD k 0) = 13 := by simpa using c2
     refine ⟨⟨_, k + 1, by omega, fun j hj => ?_, ?_, rfl⟩, by dsimp only; omega⟩
     ·rcases Nat.lt_or_ge j k with h | h
      ·exact hne j h
      ·rw [show j = k by omega]; exact c1
     ·rcases hf with ⟨a, b⟩ | ⟨a, j, hj, b⟩
      ·refine .inl ⟨a, fun j hj => ?_⟩
       rcases Nat.lt_or_ge j k with h | h
       ·exact b j h
       ·rw [show j = k by omega]; exact c2
      ·exact .inr ⟨a, j, by omega, b⟩
   ·have c := of_decide_eq_false c
    have : k = cs.length := by omega
    subst this
    exact .inr ⟨f, rfl, hne, hf⟩)
  ⟨13, 0, by omega, fun j hj => by omega, .inl ⟨rfl, fun j hj => by omega⟩, rfl⟩
 rcases h with ⟨rfl, h⟩ | ⟨f, rfl, h1, h2⟩
 ·exact ⟨e, Post.run (Post.altR hz (Post.pure rfl)), .inl ⟨rfl, h⟩⟩
 ·refine ⟨f, Post.run (Post.altL hz (Post.pure rfl)), ?_⟩
  rcases h2 with ⟨a, b⟩ | ⟨a, j, hj, b⟩
  ·exact .inr (.inl ⟨a, b⟩)
  ·exact .inr (.inr ⟨fun hfe => h1 j hj (by rw [b, hfe]), a, h1, j, hj, b⟩)
theorem own_spec (ps : List (Int × Int)) (first out : List Int) (sos own : Int) {n : Nat} (ho : out.length = n) (hn : n ≤ 4194304) {i a b : Nat} (hi : i < ps.length) (hb : ps[i].2 = (b : Int)) (hab : a ≤ b) (hbn : b < n) :
  ∃ to, loopW (fun s : List (List Int) × List Int × Int × List Int × Int × Int × Int × Int => (ref14_Brackets_L8 s.1 s.2.1 s.2.2.1 s.2.2.2.1 s.2.2.2.2.1 s.2.2.2.2.2.1 s.2.2.2.2.2.2.1 s.2.2.2.2.2.2.2).run) (ps.map two', first, sos, out, own, (i : Int), -1, (a : Int)) = some (ps.map two', first, sos, out, own, (i : Int), to) ∧
   ((to = own ∧ ∃ j, a ≤ j ∧ j < b ∧ sid (out.getD j 0) = own) ∨ (to = -1 ∧ ∀ j, a ≤ j → j < b → sid (out.getD j 0) ≠ own)) := by
 have hp : idx (ps.map two') (i : Int) = some (two' ps[i]) := by rw [idx_get (k := i) rfl (by rw [List.length_map]; exact hi), List.getElem_map]
 have hp1 : idx (two' ps[i]) 1 = some (b : Int) := by rw [← hb]; rfl
 obtain ⟨z, hz, to, rfl, h⟩ := loop_ex (L := fun s : List (List Int) × List Int × Int × List Int × Int × Int × Int × Int => ref14_Brackets_L8 s.1 s.2.1 s.2.2.1 s.2.2.2.1 s.2.2.2.2.1 s.2.2.2.2.2.1 s.2.2.2.2.2.2.1 s.2.2.2.2.2.2.2)
  (I := fun s => ∃ (to : Int) (k : Nat), a ≤ k ∧ k ≤ b ∧ ((to = own ∧ ∃ j, a ≤ j ∧ j < k ∧ sid (out.getD j 0) = own) ∨ (to = -1 ∧ ∀ j, a ≤ j → j < k → sid (out.getD j 0) ≠ own)) ∧ s = (ps.map two', first, sos, out, own, (i : Int), to, (k : Int))) (m := fun s => b - s.2.2.2.2.2.2.2.toNat)
  (R := fun z => ∃ to, z = (ps.map two', first, sos, out, own, (i : Int), to) ∧ ((to = own ∧ ∃ j, a ≤ j ∧ j < b ∧ sid (out.getD j 0) = own) ∨ (to = -1 ∧ ∀ j, a ≤ j → j < b → sid (out.getD j 0) ≠ own))) (s0 := (ps.map two', first, sos, out, own, (i : Int), -1, (a : Int)))
  (by
   rintro s ⟨to, k, hak, hkb, hI, rfl⟩
   dsimp only
   unfold ref14_Brackets_L8
   refine Post.bnd hp (Post.bnd hp1 (Post.br (fun c => ?_) (fun c => Post.pure ?_)))
   ·have c := of_decide_eq_true c
    rw [wrap_succ (by omega)]
    refine Post.idx 0 k rfl (by omega) (Post.bnd (side_F _) (Post.br (fun c1 => Post.pure ?_) (fun c1 => Post.pure ?_)))
    ·have c1 : sid (out.getD k 0) = own := by simpa using c1
     exact ⟨⟨_, k + 1, by omega, by omega, .inl ⟨rfl, k, hak, by omega, c1⟩, rfl⟩, by dsimp only; omega⟩
    ·have c1 : sid (out.getD k 0) ≠ own := by simpa using c1
     refine ⟨⟨_, k + 1, by omega, by omega, ?_, rfl⟩, by dsimp only; omega⟩
     rcases hI with ⟨x, j, j1, j2, j3⟩ | ⟨x, y⟩
     ·exact .inl ⟨x, j, j1, by omega, j3⟩
     ·refine .inr ⟨x, fun j j1 j2 => ?_⟩
      rcases Nat.lt_or_ge j k with h | h
      ·exact y j j1 h
      ·rw [show j = k by omega]; exact c1
   ·have c := of_decide_eq_false c
    have : k = b := by omega
    subst this
    exact ⟨to, rfl, hI⟩)
  ⟨-1, a, Nat.le_refl _, hab, .inr ⟨rfl, fun j j1 j2 => by omega⟩, rfl⟩
 exact ⟨to, hz, h⟩
theorem pd_congr {f g : Nat → Int} {sos : Int} : ∀ k, (∀ i, i < k → f i = g i) → pd f sos k = pd g sos k
 | 0, _ => rfl
 | k + 1, h => by
  unfold pd
  rw [h k (by omega), pd_congr k fun i hi => h i (by omega)]
theorem before_loop (cs : List Int) (sos : Int) (hn : cs.length ≤ 4194304) : ∀ k : Nat, k ≤ cs.length → ∃ z, loopW (fun s : List Int × Int × Int => (neutral_before_L2 s.1 s.2.1 s.2.2).run) (cs, sos, (k : Int) - 1) = some z ∧ (z = .inl (pd (fn cs) sos k) ∨ z = .inr (pd (fn cs) sos k))
 | 0, _ => ⟨_, loopW_done (Post.run (by
   dsimp only
   unfold neutral_before_L2
   exact Post.brF (decide_eq_false (by omega)) (Post.pure rfl))), .inl rfl⟩
 | k + 1, h => by
  have hk : ((k + 1 : Nat) : Int) - 1 = (k : Int) := by omega
  rw [hk]
  by_cases e : dir (cs.getD k 0) = 13
  ·obtain ⟨z, hz, h2⟩ := before_loop cs sos hn k (by omega)
   refine ⟨z, loopW_next (Post.run ?_) hz, ?_⟩
   ·dsimp only
    unfold neutral_before_L2
    refine Post.brT (decide_eq_true (by omega)) (Post.idx 0 k rfl (by omega) (Post.bnd (dir_F _) (Post.brF (by simpa using e) (Post.pure ?_))))
    rw [wrap64 (by omega) (by omega)]
   ·have : pd (fn cs) sos (k + 1) = pd (fn cs) sos k := by
     have e' : dir (fn cs k) = 13 := e
     rw [pd, if_pos e']
    rw [this]; exact h2
  ·refine ⟨_, loopW_done (Post.run ?_), .inr rfl⟩
   dsimp only
   unfold neutral_before_L2
   refine Post.brT (decide_eq_true (by omega)) (Post.idx 0 k rfl (by omega) (Post.bnd (dir_F _) (Post.brT (by simpa using e) (Post.pure ?_))))
   have e' : ¬ dir (fn cs k) = 13 := e
   rw [pd, if_neg e']
theorem before_F (cs : List Int) (sos : Int) (hn : cs.length ≤ 4194304) : neutral_before_F cs sos = some (pd (fn cs) sos cs.length) := by
 obtain ⟨z, hz, rfl | rfl⟩ := before_loop cs sos hn cs.length (Nat.le_refl _)
 ·unfold neutral_before_F neutral_before_T
  rw [wrap64 (n := (cs.length : Int) - 1) (by omega) (by omega)]
  exact Post.run (Post.altL hz (Post.pure rfl))
 ·unfold neutral_before_F neutral_before_T
  rw [wrap64 (n := (cs.length : Int) - 1) (by omega) (by omega)]
  exact Post.run (Post.altR hz (Post.pure rfl))
theorem before_take (cs : List Int) (sos : Int) {p : Nat} (hp : p ≤ cs.length) (hn : cs.length ≤ 4194304) : neutral_before_F (cs.take p) sos = some (pd (fn cs) sos p) := by
 have hl : (cs.take p).length = p := by rw [List.length_take]; omega
 rw [before_F (cs.take p) sos (by omega), hl]
 congr 1
 exact pd_congr p fun i hi => by simp [fn, List.getD, List.getElem?_take, hi]
theorem other_spec (ps : List (Int × Int)) (first out : List Int) (sos own : Int) (hw : own = 0 ∨ own = 1) {n : Nat} (ho : out.length = n) (hn : n ≤ 4194304) {i a b : Nat} (hi : i < ps.length) (hb : ps[i].2 = (b : Int)) {p : Nat} (ha : ps[i].1 = (p : Int)) (hpn : p < n) (hab : a ≤ b) (hbn : b < n) :
  ∃ to, loopW (fun s : List (List Int) × List Int × Int × List Int × Int × Int × Int × Int => (ref14_Brackets_L14 s.1 s.2.1 s.2.2.1 s.2.2.2.1 s.2.2.2.2.1 s.2.2.2.2.2.1 s.2.2.2.2.2.2.1 s.2.2.2.2.2.2.2).run) (ps.map two', first, sos, out, own, (i : Int), -1, (a : Int)) = some (ps.map two', first, sos, out, own, (i : Int), to) ∧
   ((to = pd (fn out) sos p ∧ ∃ j, a ≤ j ∧ j < b ∧ sid (out.getD j 0) = 1 - own) ∨ (to = -1 ∧ ∀ j, a ≤ j → j < b → sid (out.getD j 0) ≠ 1 - own)) := by
 have hp : idx (ps.map two') (i : Int) = some (two' ps[i]) := by rw [idx_get (k := i) rfl (by rw [List.length_map]; exact hi), List.getElem_map]
 have hp1 : idx (two' ps[i]) 1 = some (b : Int) := by rw [← hb]; rfl
 have hp0 : idx (two' ps[i]) 0 = some (p : Int) := by rw [← ha]; rfl
 have hwr : IntKind.i64.wrap (1 - own) = 1 - own := wrap64 (by omega) (by omega)
 obtain ⟨z, hz, to, rfl, h⟩ := loop_ex (L := fun s : List (List Int) × List Int × Int × List Int × Int × Int × Int × Int => ref14_Brackets_L14 s.1 s.2.1 s.2.2.1 s.2.2.2.1 s.2.2.2.2.1 s.2.2.2.2.2.1 s.2.2.2.2.2.2.1 s.2.2.2.2.2.2.2)
  (I := fun s => ∃ (to : Int) (k : Nat), a ≤ k ∧ k ≤ b ∧ ((to = pd (fn out) sos p ∧ ∃ j, a ≤ j ∧ j < k ∧ sid (out.getD j 0) = 1 - own) ∨ (to = -1 ∧ ∀ j, a ≤ j → j < k → sid (out.getD j 0) ≠ 1 - own)) ∧ s = (ps.map two', first, sos, out, own, (i : Int), to, (k : Int))) (m := fun s => b - s.2.2.2.2.2.2.2.toNat)
  (R := fun z => ∃ to, z = (ps.map two', first, sos, out, own, (i : Int), to) ∧ ((to = pd (fn out) sos p ∧ ∃ j, a ≤ j ∧ j < b ∧ sid (out.getD j 0) = 1 - own) ∨ (to = -1 ∧ ∀ j, a ≤ j → j < b → sid (out.getD j 0) ≠ 1 - own))) (s0 := (ps.map two', first, sos, out, own, (i : Int), -1, (a : Int)))
  (by
   rintro s ⟨to, k, hak, hkb, hI, rfl⟩
   dsimp only
   unfold ref14_Brackets_L14
   refine Post.bnd hp (Post.bnd hp1 (Post.br (fun c => ?_) (fun c => Post.pure ?_)))
   ·have c := of_decide_eq_true c
    rw [wrap_succ (by omega), hwr]
    refine Post.idx 0 k rfl (by omega) (Post.bnd (side_F _) (Post.br (fun c1 => Post.bnd hp (Post.bnd hp0 (Post.bnd (context_F out p sos (by omega) (by omega)) (Post.pure ?_)))) (fun c1 => Post.pure ?_)))
    ·have c1 : sid (out.getD k 0) = 1 - own := by simpa using c1
     exact ⟨⟨_, k + 1, by omega, by omega, .inl ⟨rfl, k, hak, by omega, c1⟩, rfl⟩, by dsimp only; omega⟩
    ·have c1 : sid (out.getD k 0) ≠ 1 - own := by simpa using c1
     refine ⟨⟨_, k + 1, by omega, by omega, ?_, rfl⟩, by dsimp only; omega⟩
     rcases hI with ⟨x, j, j1, j2, j3⟩ | ⟨x, y⟩
     ·exact .inl ⟨x, j, j1, by omega, j3⟩
     ·refine .inr ⟨x, fun j j1 j2 => ?_⟩
      rcases Nat.lt_or_ge j k with h | h
      ·exact y j j1 h
      ·rw [show j = k by omega]; exact c1
   ·have c := of_decide_eq_false c
    have : k = b := by omega
    subst this
    exact ⟨to, rfl, hI⟩)
  ⟨-1, a, Nat.le_refl _, hab, .inr ⟨rfl, fun j j1 j2 => by omega⟩, rfl⟩
 exact ⟨to, hz, h⟩
theorem pd_side' (f : Nat → Int) {sos : Int} (h : sos = 0 ∨ sos = 1) : ∀ k, pd f sos k = 0 ∨ pd f sos k = 1
 | 0 => h
 | k + 1 => by
  rw [pd]
  split
  ·exact pd_side' f h k
  ·have := dir_cases (f k); omega
theorem sid_e {c e : Int} (he : e = 0 ∨ e = 1) : sid c = e ↔ dir c = e := by
 unfold sid
 split <;> omega
theorem turns_both (ps : List (Int × Int)) (first out : List Int) (v : Int) (hv : 0 ≤ v ∧ v ≤ 22) {n : Nat} (hf : first.length = n) (ho : out.length = n) (hn : n ≤ 4194304) (sos own : Int) {k p q : Nat} (hk : k < ps.length) (hp : ps[k].1 = (p : Int)) (hq : ps[k].2 = (q : Int)) (hpn : p < n) (hqn : q < n) :
  ∃ a b : List Int, b.length = n ∧ (Cls out → Cls b) ∧ neutral_turn_F out first (p : Int) v = some (a, ()) ∧ neutral_turn_F a first (q : Int) v = some (b, ()) ∧
   loopW (fun s : List (List Int) × List Int × Int × List Int × Int × Int × Int × Int => (ref14_Brackets_L20 s.1 s.2.1 s.2.2.1 s.2.2.2.1 s.2.2.2.2.1 s.2.2.2.2.2.1 s.2.2.2.2.2.2.1 s.2.2.2.2.2.2.2).run) (ps.map two', first, sos, out, own, (k : Int), v, 0) = some (ps.map two', first, sos, b, own, (k : Int)) := by
 have hx : idx (ps.map two') (k : Int) = some (two' ps[k]) := by rw [idx_get (k := k) rfl (by rw [List.length_map]; exact hk), List.getElem_map]
 have hp0 : idx (two' ps[k]) 0 = some (p : Int) := by rw [← hp]; rfl
 have hp1 : idx (two' ps[k]) 1 = some (q : Int) := by rw [← hq]; rfl
 obtain ⟨a, hal, ca, ha, ha2⟩ := turn_both first out v hv hf ho hn (ps.map two') sos own (k : Int) 0 hpn
 obtain ⟨b, hbl, cb, hb, hb2⟩ := turn_both first a v hv hf hal hn (ps.map two') sos own (k : Int) 1 hqn
 have w0 : IntKind.i64.wrap ((0 : Int) + 1) = 1 := wrap64 (by omega) (by omega)
 have w1 : IntKind.i64.wrap ((1 : Int) + 1) = 2 := wrap64 (by omega) (by omega)
 refine ⟨a, b, hbl, fun h => cb (ca h), ha, hb, loopW_next (s' := (ps.map two', first, sos, a, own, (k : Int), v, 1)) (Post.run ?_) (loopW_next (s' := (ps.map two', first, sos, b, own, (k : Int), v, 2)) (Post.run ?_) (loopW_done (Post.run ?_)))⟩
 ·dsimp only
  unfold ref14_Brackets_L20
  refine Post.brT rfl (Post.bnd hx (Post.bnd hp0 (Post.idx 0 p rfl (by omega) (Post.bnd hx (Post.bnd hp0 ?_)))))
  rw [wrap_succ (k := p) (by omega)]
  refine Post.bnd ha2 (Post.pure ?_)
  dsimp only
  rw [w0]
 ·dsimp only
  unfold ref14_Brackets_L20
  refine Post.brT rfl (Post.bnd hx (Post.bnd hp1 (Post.idx 0 q rfl (by omega) (Post.bnd hx (Post.bnd hp1 ?_)))))
  rw [wrap_succ (k := q) (by omega)]
  refine Post.bnd hb2 (Post.pure ?_)
  dsimp only
  rw [w1]
 ·dsimp only
  unfold ref14_Brackets_L20
  exact Post.brF rfl (Post.pure rfl)
def Hid (p : Prop) : Prop := p
theorem step_both (first : List Int) (sos e : Int) (he : e = 0 ∨ e = 1) (hs : sos = 0 ∨ sos = 1) {n : Nat} (hf : first.length = n) (hn : n ≤ 4194304) {ps : List (Int × Int)} (hp : Prs n ps) {k : Nat} (hk : k < ps.length) (hkn : ps.length ≤ n) (out : List Int) (ho : out.length = n) :
  ∃ out', out'.length = n ∧ (Cls out → Cls out') ∧ (∀ l, emb l = e → Post (neutral_Brackets_L5 first l sos out ps (ps.length : Int) (k : Int)) (· = .next (first, l, sos, out', ps, (ps.length : Int), ((k + 1 : Nat) : Int)))) ∧
   Post (ref14_Brackets_L4 (ps.map two') first sos out e (k : Int)) (· = .next (ps.map two', first, sos, out', e, ((k + 1 : Nat) : Int))) := by
 have hq := hp ps[k] (List.getElem_mem hk)
 obtain ⟨p, e1⟩ : ∃ p : Nat, ps[k].1 = (p : Int) := ⟨ps[k].1.toNat, by omega⟩
 obtain ⟨q, e2⟩ : ∃ q : Nat, ps[k].2 = (q : Int) := ⟨ps[k].2.toNat, by omega⟩
 have hpq : p < q := by omega
 have hqn : q < n := by omega
 have hcut : cut out (IntKind.i64.wrap (ps[k].1 + 1)) ps[k].2 = some ((out.take q).drop (p + 1)) := cut_drop (by rw [wrap64 (by omega) (by omega)]; omega) (by omega) (by omega) (by omega)
 have hwl : ((out.take q).drop (p + 1)).length = q - (p + 1) := by rw [List.length_drop, List.length_take]; omega
 have hwg : ∀ j, j < q - (p + 1) → ((out.take q).drop (p + 1)).getD j 0 = out.getD (p + 1 + j) 0 := fun j hj => by
  simp only [List.getD, List.getElem?_drop, List.getElem?_take]
  rw [if_pos (by omega)]
 obtain ⟨v, hv, hc⟩ := inside_spec ((out.take q).drop (p + 1)) e he (by omega)
 rw [hwl] at hc
 have hx : idx ps (k : Int) = some ps[k] := idx_get rfl hk
 have hxm : idx (ps.map two') (k : Int) = some (two' ps[k]) := by rw [idx_get (k := k) rfl (by rw [List.length_map]; exact hk), List.getElem_map]
 have hp0 : idx (two' ps[k]) 0 = some (p : Int) := by rw [← e1]; rfl
 have hw : IntKind.i64.wrap ((k : Int) + 1) = ((k + 1 : Nat) : Int) := wrap_succ (by omega)
 have hwp : IntKind.i64.wrap ((p : Int) + 1) = ((p + 1 : Nat) : Int) := wrap_succ (by omega)
 obtain ⟨to, l8, h8⟩ := own_spec ps first out sos e ho hn (a := p + 1) (b := q) hk e2 (by omega) hqn
 obtain ⟨to2, l14, h14⟩ := other_spec ps first out sos e he ho hn (a := p + 1) (b := q) hk e2 e1 (by omega) (by omega) hqn
 replace h8 : Hid _ := h8
 replace h14 : Hid _ := h14
 have hsub : ∀ j, p + 1 ≤ j → j < q → ((out.take q).drop (p + 1)).getD (j - (p + 1)) 0 = out.getD j 0 := fun j j1 j2 => by
  rw [hwg _ (by omega), show p + 1 + (j - (p + 1)) = j by omega]
 rcases hc with ⟨rfl, j, hj, hd⟩ | ⟨rfl, hd⟩ | ⟨v1, v2, hne, j, hj, hd⟩
 ·have hto : to = v := by
   rcases h8 with ⟨a, _⟩ | ⟨_, b⟩
   ·exact a
   ·exact absurd ((sid_e he).2 (by rw [← hwg j hj]; exact hd)) (b (p + 1 + j) (by omega) (by omega))
  obtain ⟨a, b, hb, cb, ta, tb, l20⟩ := turns_both ps first out v (by omega) hf ho hn sos v hk e1 e2 (by omega) hqn
  refine ⟨b, hb, cb, fun l hl => ?_, ?_⟩
  ·unfold neutral_Brackets_L5
   rw [hw]
   refine Post.brT (decide_eq_true (by omega)) (Post.bnd hx (post_box (post_box (Post.bnd hcut (Post.bnd (level_F l) ?_)))))
   rw [hl]
   refine Post.bnd hv (Post.brF (by rw [beq_eq_false_iff_ne]; omega) (Post.bnd (level_F l) ?_))
   rw [hl]
   rw [← e1] at ta
   rw [← e2] at tb
   exact Post.brF (by simp) (post_box (Post.bnd ta (post_box (Post.bnd tb (Post.pure rfl)))))
  ·unfold ref14_Brackets_L4
   refine Post.brT (decide_eq_true (by rw [List.length_map]; omega)) (Post.bnd hxm (Post.bnd hp0 ?_))
   rw [hwp]
   refine Post.bnd l8 (Post.brF (decide_eq_false (by dsimp only; omega)) (Post.brF (decide_eq_false (by dsimp only; omega)) ?_))
   dsimp only
   rw [hto]
   refine Post.bnd l20 (Post.pure ?_)
   dsimp only
   rw [hw]
 ·have hto : to = -1 := by
   rcases h8 with ⟨_, j, j1, j2, j3⟩ | ⟨a, _⟩
   ·have := hd (j - (p + 1)) (by omega)
    rw [hsub j j1 j2] at this
    have := (sid_e he).1 j3
    omega
   ·exact a
  have hto2 : to2 = -1 := by
   rcases h14 with ⟨_, j, j1, j2, j3⟩ | ⟨a, _⟩
   ·have := hd (j - (p + 1)) (by omega)
    rw [hsub j j1 j2] at this
    have := (sid_e (e := 1 - e) (by omega)).1 j3
    omega
   ·exact a
  refine ⟨out, ho, id, fun l hl => ?_, ?_⟩
  ·unfold neutral_Brackets_L5
   rw [hw]
   refine Post.brT (decide_eq_true (by omega)) (Post.bnd hx (post_box (post_box (Post.bnd hcut (Post.bnd (level_F l) ?_)))))
   rw [hl]
   exact Post.bnd hv (Post.brT (by simp) (Post.pure rfl))
  ·unfold ref14_Brackets_L4
   refine Post.brT (decide_eq_true (by rw [List.length_map]; omega)) (Post.bnd hxm (Post.bnd hp0 ?_))
   rw [hwp]
   subst hto
   subst hto2
   refine Post.bnd l8 (Post.brT rfl (Post.bnd hxm (Post.bnd hp0 ?_)))
   rw [hwp]
   refine Post.bnd l14 (Post.brT rfl (Post.pure ?_))
   dsimp only
   rw [hw]
 ·have hto : to = -1 := by
   rcases h8 with ⟨_, j, j1, j2, j3⟩ | ⟨a, _⟩
   ·have := hne (j - (p + 1)) (by omega)
    rw [hsub j j1 j2] at this
    exact absurd ((sid_e he).1 j3) this
   ·exact a
  have hve : v = 1 - e := by have := dir_cases (((out.take q).drop (p + 1)).getD j 0); omega
  have hto2 : to2 = pd (fn out) sos p := by
   rcases h14 with ⟨a, _⟩ | ⟨_, b⟩
   ·exact a
   ·exact absurd ((sid_e (e := 1 - e) (by omega)).2 (by rw [← hwg j hj, hd, hve])) (b (p + 1 + j) (by omega) (by omega))
  have hpd := pd_side' (fn out) hs p
  have hcut2 : cut out 0 ps[k].1 = some (out.take p) := cut_take (by omega) (by omega)
  have hu := before_take out sos (p := p) (by omega) (by omega)
  obtain ⟨a, b, hb, cb, ta, tb, l20⟩ := turns_both ps first out (pd (fn out) sos p) (by omega) hf ho hn sos e hk e1 e2 (by omega) hqn
  refine ⟨b, hb, cb, fun l hl => ?_, ?_⟩
  ·unfold neutral_Brackets_L5
   rw [hw]
   refine Post.brT (decide_eq_true (by omega)) (Post.bnd hx (post_box (post_box (Post.bnd hcut (Post.bnd (level_F l) ?_)))))
   rw [hl]
   refine Post.bnd hv (Post.brF (by simpa using v2) (Post.bnd (level_F l) ?_))
   rw [hl]
   refine Post.brT (by simpa using v1) (post_box (Post.bnd hcut2 (Post.bnd hu ?_)))
   rw [← e1] at ta
   rw [← e2] at tb
   exact post_box (Post.bnd ta (post_box (Post.bnd tb (Post.pure rfl))))
  ·unfold ref14_Brackets_L4
   refine Post.brT (decide_eq_true (by rw [List.length_map]; omega)) (Post.bnd hxm (Post.bnd hp0 ?_))
   rw [hwp]
   subst hto
   subst hto2
   refine Post.bnd l8 (Post.brT rfl (Post.bnd hxm (Post.bnd hp0 ?_)))
   rw [hwp]
   refine Post.bnd l14 (Post.brF (decide_eq_false (by dsimp only; omega)) (Post.bnd l20 (Post.pure ?_)))
   dsimp only
   rw [hw]
theorem loop_both (first : List Int) (sos e : Int) (he : e = 0 ∨ e = 1) (hs : sos = 0 ∨ sos = 1) {n : Nat} (hf : first.length = n) (hn : n ≤ 4194304) {ps : List (Int × Int)} (hp : Prs n ps) (hkn : ps.length ≤ n) : ∀ (d k : Nat) (out : List Int), ps.length = k + d → out.length = n →
  ∃ r, r.length = n ∧ (Cls out → Cls r) ∧ (∀ l, emb l = e → loopW (fun s : List Int × Int × Int × List Int × (List (Int × Int)) × Int × Int => (neutral_Brackets_L5 s.1 s.2.1 s.2.2.1 s.2.2.2.1 s.2.2.2.2.1 s.2.2.2.2.2.1 s.2.2.2.2.2.2).run) (first, l, sos, out, ps, (ps.length : Int), (k : Int)) = some r) ∧
   loopW (fun s : List (List Int) × List Int × Int × List Int × Int × Int => (ref14_Brackets_L4 s.1 s.2.1 s.2.2.1 s.2.2.2.1 s.2.2.2.2.1 s.2.2.2.2.2).run) (ps.map two', first, sos, out, e, (k : Int)) = some r
 | 0, k, out, h, ho => ⟨out, ho, id, fun l _ => loopW_done (Post.run (by
   dsimp only
   unfold neutral_Brackets_L5
   exact Post.brF (decide_eq_false (by omega)) (Post.pure rfl))), loopW_done (Post.run (by
   dsimp only
   unfold ref14_Brackets_L4
   exact Post.brF (decide_eq_false (by rw [List.length_map]; omega)) (Post.pure rfl)))⟩
 | d + 1, k, out, h, ho => by
  obtain ⟨out', ho', hc, hs1, hs2⟩ := step_both first sos e he hs hf hn hp (k := k) (by omega) hkn out ho
  obtain ⟨r, hr, hc2, hl, hl2⟩ := loop_both first sos e he hs hf hn hp hkn d (k + 1) out' (by omega) ho'
  exact ⟨r, hr, fun h => hc2 (hc h), fun l hle => loopW_next (Post.run (hs1 l hle)) (hl l hle), loopW_next (Post.run hs2) hl2⟩
theorem brackets_both (rs first cs : List Int) (sos l : Int) (hs : sos = 0 ∨ sos = 1) (hl : 0 ≤ l) {n : Nat} (h1 : rs.length = n) (h2 : first.length = n) (h3 : cs.length = n) (hn : n ≤ 4194304) (w : ∀ x ∈ rs, -2147483648 ≤ x ∧ x ≤ 2147483647) :
  ∃ r ws, r.length = n ∧ (Cls cs → Cls r) ∧ neutral_Brackets_F rs first cs l sos = some r ∧ law15_Want_F rs cs = some ws ∧ ref14_Brackets_F ws first cs l sos = some r := by
 obtain ⟨ps, hps, hw⟩ := want_same rs cs h1 h3 hn w
 obtain ⟨ps2, hps2, hp, hpl⟩ := pairs_any rs cs h1 h3 hn
 rw [hps] at hps2
 obtain rfl := Option.some.inj hps2
 have he : emb l = 0 ∨ emb l = 1 := by unfold emb; split <;> omega
 obtain ⟨r, hr, hc, hl1, hl2⟩ := loop_both first sos (emb l) he hs h2 hn hp hpl ps.length 0 cs (by omega) h3
 refine ⟨r, ps.map two', hr, hc, ?_, hw, ?_⟩
 ·unfold neutral_Brackets_F neutral_Brackets_T
  exact Post.run (Post.bnd (clone_F cs (by omega)) (Post.brF (by rw [h1, h3]; simp) (Post.brF (by rw [h2, h3]; simp) (Post.bnd hps (Post.bnd (hl1 l rfl) (Post.pure rfl))))))
 ·have hem : l.tmod 2 = emb l := by
   rw [Int.tmod_eq_emod_of_nonneg hl]
   unfold emb
   split <;> omega
  unfold ref14_Brackets_F ref14_Brackets_T
  rw [hem]
  exact Post.run (Post.bnd (copied_F cs (by omega)) (Post.bnd hl2 (Post.pure rfl)))
theorem rrest_F (cs : List Int) (l sos eos : Int) (hl : 0 ≤ l) (hn : cs.length ≤ 4194304) : ref14_Rest_F cs l sos eos = some (tab cs.length (rest (fn cs) sos eos (emb l) cs.length)) := by
 unfold ref14_Rest_F ref14_Rest_T
 have hself : cs = tab cs.length (fn cs) := tab_self 0 cs
 have hem : l.tmod 2 = emb l := by
  rw [Int.tmod_eq_emod_of_nonneg hl]
  unfold emb
  by_cases h : 0 < l ∧ l % 2 = 1
  ·rw [if_pos h]; omega
  ·rw [if_neg h]; omega
 refine Post.run (Post.bnd (copied_F cs hn) (Post.bnd (count (L := fun s : List Int × Int × Int × Int × List Int × Int => ref14_Rest_L3 s.1 s.2.1 s.2.2.1 s.2.2.2.1 s.2.2.2.2.1 s.2.2.2.2.2) cs.length (fun k => (cs, l, sos, eos, tab cs.length (part (rest (fn cs) sos eos (emb l) cs.length) (fn cs) k), (k : Int))) (r := tab cs.length (rest (fn cs) sos eos (emb l) cs.length)) (by rw [part_zero, ← hself]; rfl) (fun k hk => ?_) ?_) (Post.pure rfl)))
 ·dsimp only
  unfold ref14_Rest_L3
  have hd := dir_cases (cs.getD k 0)
  refine Post.brT (by rw [decide_eq_true_eq]; omega) (Post.idx 0 k rfl hk (Post.bnd (side_F _) ?_))
  rw [wrap_succ (by omega)]
  by_cases e : dir (cs.getD k 0) = 13
  ·have hs : sid (cs.getD k 0) = -1 := if_pos e
   rw [hs]
   refine Post.brF (by decide) (Post.bnd (context_F cs k sos hn (by omega)) ?_)
   generalize ho : tab cs.length (part (rest (fn cs) sos eos (emb l) cs.length) (fn cs) k) = out
   have hr : rest (fn cs) sos eos (emb l) cs.length k = if pd (fn cs) sos k = nx (fn cs) eos (cs.length - k) k then pd (fn cs) sos k else emb l := if_pos e
   have hnk : nx (fn cs) eos (cs.length - k) k = nx (fn cs) eos (cs.length - (k + 1)) (k + 1) := by
    rw [show cs.length - k = (cs.length - (k + 1)) + 1 by omega]
    exact if_pos e
   have hloop : ∃ r, loopW (fun s : List Int × Int × Int × Int × List Int × Int × Int × Int × Int => (ref14_Rest_L9 s.1 s.2.1 s.2.2.1 s.2.2.2.1 s.2.2.2.2.1 s.2.2.2.2.2.1 s.2.2.2.2.2.2.1 s.2.2.2.2.2.2.2.1 s.2.2.2.2.2.2.2.2).run) (cs, l, sos, eos, out, (k : Int), pd (fn cs) sos k, eos, IntKind.i64.wrap ((cs.length : Int) - 1)) = some r ∧ r = (cs, l, sos, eos, out, (k : Int), pd (fn cs) sos k, nx (fn cs) eos (cs.length - (k + 1)) (k + 1)) := by
    rw [wrap64 (by omega) (by omega)]
    refine loop_ex (L := fun s : List Int × Int × Int × Int × List Int × Int × Int × Int × Int => ref14_Rest_L9 s.1 s.2.1 s.2.2.1 s.2.2.2.1 s.2.2.2.2.1 s.2.2.2.2.2.1 s.2.2.2.2.2.2.1 s.2.2.2.2.2.2.2.1 s.2.2.2.2.2.2.2.2) (fun s => ∃ m : Nat, k + 1 ≤ m ∧ m ≤ cs.length ∧ s = (cs, l, sos, eos, out, (k : Int), pd (fn cs) sos k, nx (fn cs) eos (cs.length - m) m, (m : Int) - 1)) (fun s => (s.2.2.2.2.2.2.2.2 + 1).toNat) ?_ ⟨cs.length, by omega, Nat.le_refl _, by rw [Nat.sub_self]; rfl⟩
    rintro s ⟨m, h1, h2, rfl⟩
    dsimp only
    unfold ref14_Rest_L9
    obtain ⟨m, rfl⟩ : ∃ j, m = j + 1 := ⟨m - 1, by omega⟩
    rw [show ((m + 1 : Nat) : Int) - 1 = (m : Int) by omega]
    by_cases e2 : m = k
    ·subst e2
     exact Post.brF (by rw [decide_eq_false_iff_not]; omega) (Post.pure rfl)
    ·refine Post.brT (by rw [decide_eq_true_eq]; omega) (Post.idx 0 m rfl (by omega) (Post.bnd (side_F _) ?_))
     rw [wrap64 (by omega) (by omega)]
     have hdm := dir_cases (cs.getD m 0)
     have hnm : nx (fn cs) eos (cs.length - m) m = if dir (cs.getD m 0) = 13 then nx (fn cs) eos (cs.length - (m + 1)) (m + 1) else dir (cs.getD m 0) := by
      rw [show cs.length - m = (cs.length - (m + 1)) + 1 by omega]
      rfl
     by_cases e3 : dir (cs.getD m 0) = 13
     ·rw [if_pos e3] at hnm
      rw [show sid (cs.getD m 0) = -1 from if_pos e3]
      exact Post.brF (by decide) (Post.pure ⟨⟨m, by omega, by omega, by rw [hnm]⟩, by dsimp only; omega⟩)
     ·rw [if_neg e3] at hnm
      have hs3 : sid (cs.getD m 0) = dir (cs.getD m 0) := if_neg e3
      refine Post.brT (by rw [decide_eq_true_eq, hs3]; omega) (Post.idx 0 m rfl (by omega) (Post.bnd (side_F _) (Post.pure ⟨⟨m, by omega, by omega, by rw [hnm, hs3]⟩, by dsimp only; omega⟩)))
   obtain ⟨_, q1, rfl⟩ := hloop
   refine Post.bnd q1 ?_
   dsimp only
   rw [hem]
   have hol : out.length = cs.length := by rw [← ho, tab_len]
   rw [wrap_succ (by omega), toNat_nat]
   refine Post.idx 0 k rfl (by omega) ?_
   rw [hnk] at hr
   by_cases e4 : pd (fn cs) sos k = nx (fn cs) eos (cs.length - (k + 1)) (k + 1)
   ·rw [if_pos e4] at hr
    refine Post.brT (beq_iff_eq.2 e4) (Post.idx 0 k rfl (by rw [List.length_set]; omega) (Post.pure ?_))
    rw [List.set_set, ← ho, part_set cs.length hr]
   ·rw [if_neg e4] at hr
    refine Post.brF (beq_eq_false_iff_ne.2 e4) (Post.pure ?_)
    rw [← ho, part_set cs.length hr]
  ·have hs : sid (cs.getD k 0) = dir (cs.getD k 0) := if_neg e
   refine Post.brT (by rw [decide_eq_true_eq, hs]; omega) (Post.pure ?_)
   rw [part_keep cs.length (show rest (fn cs) sos eos (emb l) cs.length k = fn cs k from if_neg e)]
 ·dsimp only
  unfold ref14_Rest_L3
  exact Post.brF (by simp) (Post.pure (by rw [part_end]))
end Go.Proofs.YtenbhmjcoljddaaGreatDoor.Nu
