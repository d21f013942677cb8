import Derived.Test.YtenbhmjcoljddaaGreatDoorLvW
namespace Go.Proofs.YtenbhmjcoljddaaGreatDoor.Wk
set_option linter.all false
theorem copied_F (cs : List Int) (hn : cs.length ≤ 4194304) : ref14_copied_F cs = some cs := by
 unfold ref14_copied_F ref14_copied_T
 rw [Tr.run_bnd_some (app_eq (by simp; omega))]; rfl
theorem rule1_F (sos : Int) (g : Nat → Int) (n : Nat) (hn : n ≤ 4194304) : ref14_rule1_F (tab n g) sos = some (tab n (m1 sos g)) := by
 unfold ref14_rule1_F ref14_rule1_T
 refine Post.run (Post.bnd (copied_F _ (by rw [tab_len]; exact hn)) (Post.bnd (count (L := fun s : Int × List Int × Int => ref14_rule1_L3 s.1 s.2.1 s.2.2) n (fun k => (sos, tab n (part (m1 sos g) g k), (k : Int))) (r := tab n (m1 sos g)) rfl (fun k hk => ?_) ?_) (Post.pure rfl)))
 ·dsimp only
  have e := m1_eq sos g k
  unfold ref14_rule1_L3
  rw [tab_len]
  refine Post.brT (decide_eq_true (by omega)) (ptab k rfl hk ?_)
  rw [part_at]
  refine Post.br (fun h => ?_) (fun h => ?_)
  ·rw [bne_iff_ne] at h
   rw [if_neg h] at e
   exact Post.pure (by rw [wrap_succ (by omega), ← part_keep n e])
  ·rw [bne_eq_false_iff_eq] at h
   rw [if_pos h] at e
   have ha : ref14_ahead_F (tab n (part (m1 sos g) g k)) (k : Int) sos = some (prev sos (m1 sos g) k) := by
    unfold ref14_ahead_F ref14_ahead_T
    cases k with
    | zero => rfl
    | succ k =>
     refine Post.run (Post.brF (by simp; omega) (ptab k (by rw [wrap64 (by omega) (by omega)]; omega) (by omega) (Post.pure ?_)))
     rw [part_lt _ _ (by omega)]; rfl
   refine Post.bnd ha ?_
   have out : ∀ {v : Int}, blank (prev sos (m1 sos g) k) = v → Post (Tr.pure (Lap.next (sos, (tab n (part (m1 sos g) g k)).set (Int.toNat (k : Int)) v, IntKind.i64.wrap ((k : Int) + 1)))) (· = (Lap.next (sos, tab n (part (m1 sos g) g (k + 1)), ((k + 1 : Nat) : Int)) : Lap (Int × List Int × Int) (List Int))) := fun hb => Post.pure (by rw [toNat_nat, wrap_succ (by omega), part_set n (e.trans hb)])
   refine Post.br (fun h1 => ?_) (fun h1 => ?_)
   ·rw [decide_eq_true_eq] at h1
    refine Post.br (fun h2 => ?_) (fun h2 => ?_)
    ·rw [decide_eq_true_eq] at h2
     exact ptab k rfl hk (out (by unfold blank; rw [if_pos (by omega)]))
    ·rw [decide_eq_false_iff_not] at h2
     exact ptab k rfl hk (out (by unfold blank; rw [if_neg (by omega)]))
   ·rw [decide_eq_false_iff_not] at h1
    exact ptab k rfl hk (out (by unfold blank; rw [if_neg (by omega)]))
 ·dsimp only
  unfold ref14_rule1_L3
  rw [tab_len]
  exact Post.brF (decide_eq_false (by omega)) (Post.pure (by rw [part_end]))
theorem refStrong_F (sos : Int) (g : Nat → Int) (n k : Nat) (hn : n ≤ 4194304) (hk : k ≤ n) : ref14_strong_F (tab n g) (k : Int) sos = some (s2 sos g k) := by
 have key : ∀ k : Nat, k ≤ n → ∃ r : Sum Int Int, loopW (fun s : List Int × Int × Int => (ref14_strong_L2 s.1 s.2.1 s.2.2).run) (tab n g, sos, (k : Int) - 1) = some r ∧ (match r with | .inl a => a | .inr a => a) = s2 sos g k := by
  intro k
  induction k with
  | zero =>
   intro _
   refine ⟨.inl sos, loopW_done (Post.run ?_), rfl⟩
   unfold ref14_strong_L2
   dsimp only
   (first | refine Post.brT (by simp only [zA, zB, zC, zD, zE, zF, zG, zH, zI, zJ, zK, zL, zM, zN]; omega) ?_ | refine Post.brF (by simp only [zA, zB, zC, zD, zE, zF, zG, zH, zI, zJ, zK, zL, zM, zN]; omega) ?_)
   exact Post.pure rfl
  | succ k ih =>
   intro hk
   obtain ⟨r, h1, h2⟩ := ih (by omega)
   have f := s2_succ sos g k
   have ek : ((k + 1 : Nat) : Int) - 1 = (k : Int) := by omega
   rw [ek]
   by_cases hs : g k = 0 ∨ g k = 1 ∨ g k = 2
   ·rw [if_pos hs] at f
    refine ⟨.inr (g k), loopW_done (Post.run ?_), f.symm⟩
    unfold ref14_strong_L2
    dsimp only
    (first | refine Post.brT (by simp only [zA, zB, zC, zD, zE, zF, zG, zH, zI, zJ, zK, zL, zM, zN]; omega) ?_ | refine Post.brF (by simp only [zA, zB, zC, zD, zE, zF, zG, zH, zI, zJ, zK, zL, zM, zN]; omega) ?_)
    (first | refine ptab _ rfl (by omega) ?_ | refine Post.bnd (idx_set_at (by omega) (by simp only [List.length_set, tab_len]; omega)) ?_)
    by_cases h0 : g k = 0
    ·(first | refine Post.brT (by simp only [zA, zB, zC, zD, zE, zF, zG, zH, zI, zJ, zK, zL, zM, zN]; omega) ?_ | refine Post.brF (by simp only [zA, zB, zC, zD, zE, zF, zG, zH, zI, zJ, zK, zL, zM, zN]; omega) ?_)
     (first | refine ptab _ rfl (by omega) ?_ | refine Post.bnd (idx_set_at (by omega) (by simp only [List.length_set, tab_len]; omega)) ?_)
     exact Post.pure rfl
    ·(first | refine Post.brT (by simp only [zA, zB, zC, zD, zE, zF, zG, zH, zI, zJ, zK, zL, zM, zN]; omega) ?_ | refine Post.brF (by simp only [zA, zB, zC, zD, zE, zF, zG, zH, zI, zJ, zK, zL, zM, zN]; omega) ?_)
     (first | refine ptab _ rfl (by omega) ?_ | refine Post.bnd (idx_set_at (by omega) (by simp only [List.length_set, tab_len]; omega)) ?_)
     by_cases h0 : g k = 1
     ·(first | refine Post.brT (by simp only [zA, zB, zC, zD, zE, zF, zG, zH, zI, zJ, zK, zL, zM, zN]; omega) ?_ | refine Post.brF (by simp only [zA, zB, zC, zD, zE, zF, zG, zH, zI, zJ, zK, zL, zM, zN]; omega) ?_)
      (first | refine ptab _ rfl (by omega) ?_ | refine Post.bnd (idx_set_at (by omega) (by simp only [List.length_set, tab_len]; omega)) ?_)
      exact Post.pure rfl
     ·(first | refine Post.brT (by simp only [zA, zB, zC, zD, zE, zF, zG, zH, zI, zJ, zK, zL, zM, zN]; omega) ?_ | refine Post.brF (by simp only [zA, zB, zC, zD, zE, zF, zG, zH, zI, zJ, zK, zL, zM, zN]; omega) ?_)
      (first | refine ptab _ rfl (by omega) ?_ | refine Post.bnd (idx_set_at (by omega) (by simp only [List.length_set, tab_len]; omega)) ?_)
      (first | refine Post.brT (by simp only [zA, zB, zC, zD, zE, zF, zG, zH, zI, zJ, zK, zL, zM, zN]; omega) ?_ | refine Post.brF (by simp only [zA, zB, zC, zD, zE, zF, zG, zH, zI, zJ, zK, zL, zM, zN]; omega) ?_)
      (first | refine ptab _ rfl (by omega) ?_ | refine Post.bnd (idx_set_at (by omega) (by simp only [List.length_set, tab_len]; omega)) ?_)
      exact Post.pure rfl
   ·rw [if_neg hs] at f
    rw [f]
    refine ⟨r, loopW_next (Post.run ?_) h1, h2⟩
    unfold ref14_strong_L2
    dsimp only
    (first | refine Post.brT (by simp only [zA, zB, zC, zD, zE, zF, zG, zH, zI, zJ, zK, zL, zM, zN]; omega) ?_ | refine Post.brF (by simp only [zA, zB, zC, zD, zE, zF, zG, zH, zI, zJ, zK, zL, zM, zN]; omega) ?_)
    (first | refine ptab _ rfl (by omega) ?_ | refine Post.bnd (idx_set_at (by omega) (by simp only [List.length_set, tab_len]; omega)) ?_)
    (first | refine Post.brT (by simp only [zA, zB, zC, zD, zE, zF, zG, zH, zI, zJ, zK, zL, zM, zN]; omega) ?_ | refine Post.brF (by simp only [zA, zB, zC, zD, zE, zF, zG, zH, zI, zJ, zK, zL, zM, zN]; omega) ?_)
    (first | refine ptab _ rfl (by omega) ?_ | refine Post.bnd (idx_set_at (by omega) (by simp only [List.length_set, tab_len]; omega)) ?_)
    (first | refine Post.brT (by simp only [zA, zB, zC, zD, zE, zF, zG, zH, zI, zJ, zK, zL, zM, zN]; omega) ?_ | refine Post.brF (by simp only [zA, zB, zC, zD, zE, zF, zG, zH, zI, zJ, zK, zL, zM, zN]; omega) ?_)
    (first | refine ptab _ rfl (by omega) ?_ | refine Post.bnd (idx_set_at (by omega) (by simp only [List.length_set, tab_len]; omega)) ?_)
    (first | refine Post.brT (by simp only [zA, zB, zC, zD, zE, zF, zG, zH, zI, zJ, zK, zL, zM, zN]; omega) ?_ | refine Post.brF (by simp only [zA, zB, zC, zD, zE, zF, zG, zH, zI, zJ, zK, zL, zM, zN]; omega) ?_)
    exact Post.pure (by rw [wrap64 (by omega) (by omega)])
 obtain ⟨r, h1, h2⟩ := key k hk
 unfold ref14_strong_F ref14_strong_T
 rw [wrap64 (by omega) (by omega)]
 refine Post.run ?_
 cases r with
 | inl a => exact Post.altL h1 (Post.pure h2)
 | inr a => exact Post.altR h1 (Post.pure h2)
theorem rule2_F (sos : Int) (g : Nat → Int) (n : Nat) (hn : n ≤ 4194304) : ref14_rule2_F (tab n g) sos = some (tab n (m2 sos g)) := by
 unfold ref14_rule2_F ref14_rule2_T
 refine Post.run (Post.bnd (copied_F _ (by rw [tab_len]; exact hn)) (Post.bnd (count (L := fun s : List Int × Int × List Int × Int => ref14_rule2_L3 s.1 s.2.1 s.2.2.1 s.2.2.2) n (fun k => (tab n g, sos, tab n (part (m2 sos g) g k), (k : Int))) (r := tab n (m2 sos g)) rfl (fun k hk => ?_) ?_) (Post.pure rfl)))
 ·dsimp only
  have e : m2 sos g k = if g k = 3 ∧ s2 sos g k = 2 then 6 else g k := rfl
  unfold ref14_rule2_L3
  rw [tab_len]
  (first | refine Post.brT (by simp only [zA, zB, zC, zD, zE, zF, zG, zH, zI, zJ, zK, zL, zM, zN]; omega) ?_ | refine Post.brF (by simp only [zA, zB, zC, zD, zE, zF, zG, zH, zI, zJ, zK, zL, zM, zN]; omega) ?_)
  (first | refine ptab _ rfl (by omega) ?_ | refine Post.bnd (idx_set_at (by omega) (by simp only [List.length_set, tab_len]; omega)) ?_)
  by_cases h1 : g k = 3
  ·(first | refine Post.brT (by simp only [zA, zB, zC, zD, zE, zF, zG, zH, zI, zJ, zK, zL, zM, zN]; omega) ?_ | refine Post.brF (by simp only [zA, zB, zC, zD, zE, zF, zG, zH, zI, zJ, zK, zL, zM, zN]; omega) ?_)
   refine Post.bnd (refStrong_F sos g n k hn (by omega)) ?_
   by_cases h2 : s2 sos g k = 2
   ·(first | refine Post.brT (by simp only [zA, zB, zC, zD, zE, zF, zG, zH, zI, zJ, zK, zL, zM, zN]; omega) ?_ | refine Post.brF (by simp only [zA, zB, zC, zD, zE, zF, zG, zH, zI, zJ, zK, zL, zM, zN]; omega) ?_)
    rw [if_pos ⟨h1, h2⟩] at e
    (first | refine ptab _ rfl (by omega) ?_ | refine Post.bnd (idx_set_at (by omega) (by simp only [List.length_set, tab_len]; omega)) ?_)
    exact Post.pure (by rw [toNat_nat, wrap_succ (by omega), part_set n e])
   ·(first | refine Post.brT (by simp only [zA, zB, zC, zD, zE, zF, zG, zH, zI, zJ, zK, zL, zM, zN]; omega) ?_ | refine Post.brF (by simp only [zA, zB, zC, zD, zE, zF, zG, zH, zI, zJ, zK, zL, zM, zN]; omega) ?_)
    rw [if_neg (by omega)] at e
    exact Post.pure (by rw [wrap_succ (by omega), ← part_keep n e])
  ·(first | refine Post.brT (by simp only [zA, zB, zC, zD, zE, zF, zG, zH, zI, zJ, zK, zL, zM, zN]; omega) ?_ | refine Post.brF (by simp only [zA, zB, zC, zD, zE, zF, zG, zH, zI, zJ, zK, zL, zM, zN]; omega) ?_)
   rw [if_neg (by omega)] at e
   exact Post.pure (by rw [wrap_succ (by omega), ← part_keep n e])
 ·dsimp only
  unfold ref14_rule2_L3
  rw [tab_len]
  (first | refine Post.brT (by simp only [zA, zB, zC, zD, zE, zF, zG, zH, zI, zJ, zK, zL, zM, zN]; omega) ?_ | refine Post.brF (by simp only [zA, zB, zC, zD, zE, zF, zG, zH, zI, zJ, zK, zL, zM, zN]; omega) ?_)
  exact Post.pure (by rw [part_end])
theorem rule3_F (g : Nat → Int) (n : Nat) (hn : n ≤ 4194304) : ref14_rule3_F (tab n g) = some (tab n (m3 g)) := by
 unfold ref14_rule3_F ref14_rule3_T
 refine Post.run (Post.bnd (copied_F _ (by rw [tab_len]; exact hn)) (Post.bnd (count (L := fun s : List Int × Int => ref14_rule3_L3 s.1 s.2) n (fun k => (tab n (part (m3 g) g k), (k : Int))) (r := tab n (m3 g)) rfl (fun k hk => ?_) ?_) (Post.pure rfl)))
 ·dsimp only
  have e : m3 g k = if g k = 2 then 1 else g k := rfl
  unfold ref14_rule3_L3
  rw [tab_len]
  (first | refine Post.brT (by simp only [zA, zB, zC, zD, zE, zF, zG, zH, zI, zJ, zK, zL, zM, zN]; omega) ?_ | refine Post.brF (by simp only [zA, zB, zC, zD, zE, zF, zG, zH, zI, zJ, zK, zL, zM, zN]; omega) ?_)
  (first | refine ptab _ rfl (by omega) ?_ | refine Post.bnd (idx_set_at (by omega) (by simp only [List.length_set, tab_len]; omega)) ?_)
  rw [part_at]
  by_cases h1 : g k = 2
  ·(first | refine Post.brT (by simp only [zA, zB, zC, zD, zE, zF, zG, zH, zI, zJ, zK, zL, zM, zN]; omega) ?_ | refine Post.brF (by simp only [zA, zB, zC, zD, zE, zF, zG, zH, zI, zJ, zK, zL, zM, zN]; omega) ?_)
   rw [if_pos h1] at e
   (first | refine ptab _ rfl (by omega) ?_ | refine Post.bnd (idx_set_at (by omega) (by simp only [List.length_set, tab_len]; omega)) ?_)
   exact Post.pure (by rw [toNat_nat, wrap_succ (by omega), part_set n e])
  ·(first | refine Post.brT (by simp only [zA, zB, zC, zD, zE, zF, zG, zH, zI, zJ, zK, zL, zM, zN]; omega) ?_ | refine Post.brF (by simp only [zA, zB, zC, zD, zE, zF, zG, zH, zI, zJ, zK, zL, zM, zN]; omega) ?_)
   rw [if_neg h1] at e
   exact Post.pure (by rw [wrap_succ (by omega), ← part_keep n e])
 ·dsimp only
  unfold ref14_rule3_L3
  rw [tab_len]
  (first | refine Post.brT (by simp only [zA, zB, zC, zD, zE, zF, zG, zH, zI, zJ, zK, zL, zM, zN]; omega) ?_ | refine Post.brF (by simp only [zA, zB, zC, zD, zE, zF, zG, zH, zI, zJ, zK, zL, zM, zN]; omega) ?_)
  exact Post.pure (by rw [part_end])
theorem behind_F (cs : Nat → Int) (n k : Nat) (hn : n ≤ 4194304) (hk : k ≤ n) : ref14_behind_F (tab n cs) (k : Int) = some (if k + 1 < n then cs (k + 1) else -1) := by
 unfold ref14_behind_F ref14_behind_T
 rw [tab_len, wrap_succ (by omega)]
 refine Post.run ?_
 by_cases h : k + 1 < n
 ·rw [if_pos h]
  (first | refine Post.brT (by simp only [zA, zB, zC, zD, zE, zF, zG, zH, zI, zJ, zK, zL, zM, zN]; omega) ?_ | refine Post.brF (by simp only [zA, zB, zC, zD, zE, zF, zG, zH, zI, zJ, zK, zL, zM, zN]; omega) ?_)
  exact ptab (k + 1) rfl h (Post.pure rfl)
 ·rw [if_neg h]
  (first | refine Post.brT (by simp only [zA, zB, zC, zD, zE, zF, zG, zH, zI, zJ, zK, zL, zM, zN]; omega) ?_ | refine Post.brF (by simp only [zA, zB, zC, zD, zE, zF, zG, zH, zI, zJ, zK, zL, zM, zN]; omega) ?_)
  exact Post.pure rfl
theorem rule4_F (g : Nat → Int) (n : Nat) (hn : n ≤ 4194304) : ref14_rule4_F (tab n g) = some (tab n (m4 n g)) := by
 unfold ref14_rule4_F ref14_rule4_T
 refine Post.run (Post.bnd (copied_F _ (by rw [tab_len]; exact hn)) (Post.bnd (count (L := fun s : List Int × Int => ref14_rule4_L3 s.1 s.2) (n - 1) (fun k => (tab n (part (m4 n g) g (k + 1)), ((k + 1 : Nat) : Int))) (r := tab n (m4 n g)) ?_ (fun k hk => ?_) ?_) (Post.pure rfl)))
 ·rw [← part_zero n (m4 n g) g, part_keep n (show m4 n g 0 = g 0 from rfl)]; rfl
 ·dsimp only
  have e : m4 n g (k + 1) = if k + 2 < n ∧ g (k + 2) = m4 n g k ∧ Jn (g (k + 1)) (m4 n g k) then m4 n g k else g (k + 1) := rfl
  unfold ref14_rule4_L3
  rw [tab_len]
  (first | refine Post.brT (by simp only [zA, zB, zC, zD, zE, zF, zG, zH, zI, zJ, zK, zL, zM, zN]; omega) ?_ | refine Post.brF (by simp only [zA, zB, zC, zD, zE, zF, zG, zH, zI, zJ, zK, zL, zM, zN]; omega) ?_)
  refine ptab k (by rw [wrap64 (by omega) (by omega)]; omega) (by omega) (Post.bnd (behind_F _ n (k + 1) hn (by omega)) ?_)
  rw [part_lt _ _ (by omega), part_ge _ _ (by omega)]
  generalize hb : (if k + 1 + 1 < n then g (k + 1 + 1) else -1) = b
  have hb' : (k + 2 < n ∧ g (k + 2) = b) ∨ (¬ k + 2 < n ∧ b = -1) := by
   by_cases h : k + 2 < n
   ·rw [if_pos h] at hb; exact .inl ⟨h, hb⟩
   ·rw [if_neg h] at hb; exact .inr ⟨h, hb.symm⟩
  clear hb
  generalize ha : m4 n g k = a at *
  refine ptab (k + 1) rfl (by omega) ?_
  rw [part_at]
  have set : ∀ {v : Int}, m4 n g (k + 1) = v → (Lap.next ((tab n (part (m4 n g) g (k + 1))).set (Int.toNat ((k + 1 : Nat) : Int)) v, IntKind.i64.wrap (((k + 1 : Nat) : Int) + 1)) : Lap (List Int × Int) (List Int)) = Lap.next (tab n (part (m4 n g) g (k + 1 + 1)), ((k + 1 + 1 : Nat) : Int)) := fun e => by rw [toNat_nat, wrap_succ (by omega), part_set n e]
  have keep : m4 n g (k + 1) = g (k + 1) → (Lap.next (tab n (part (m4 n g) g (k + 1)), IntKind.i64.wrap (((k + 1 : Nat) : Int) + 1)) : Lap (List Int × Int) (List Int)) = Lap.next (tab n (part (m4 n g) g (k + 1 + 1)), ((k + 1 + 1 : Nat) : Int)) := fun e => by rw [wrap_succ (by omega), ← part_keep n e]
  by_cases h1 : g (k + 1) = 4 ∧ a = 3 ∧ b = 3
  ·rw [if_pos ⟨by omega, by omega, .inl ⟨by omega, by omega⟩⟩] at e
   (first | refine Post.brT (by simp only [zA, zB, zC, zD, zE, zF, zG, zH, zI, zJ, zK, zL, zM, zN]; omega) ?_ | refine Post.brF (by simp only [zA, zB, zC, zD, zE, zF, zG, zH, zI, zJ, zK, zL, zM, zN]; omega) ?_)
   (first | refine Post.brT (by simp only [zA, zB, zC, zD, zE, zF, zG, zH, zI, zJ, zK, zL, zM, zN]; omega) ?_ | refine Post.brF (by simp only [zA, zB, zC, zD, zE, zF, zG, zH, zI, zJ, zK, zL, zM, zN]; omega) ?_)
   (first | refine Post.brT (by simp only [zA, zB, zC, zD, zE, zF, zG, zH, zI, zJ, zK, zL, zM, zN]; omega) ?_ | refine Post.brF (by simp only [zA, zB, zC, zD, zE, zF, zG, zH, zI, zJ, zK, zL, zM, zN]; omega) ?_)
   refine ptab (k + 1) rfl (by omega) (Post.bnd (idx_set_at (by omega) (by rw [tab_len]; omega)) ?_)
   (first | refine Post.brT (by simp only [zA, zB, zC, zD, zE, zF, zG, zH, zI, zJ, zK, zL, zM, zN]; omega) ?_ | refine Post.brF (by simp only [zA, zB, zC, zD, zE, zF, zG, zH, zI, zJ, zK, zL, zM, zN]; omega) ?_)
   exact Post.pure (set (by omega))
  ·by_cases h2 : g (k + 1) = 7 ∧ a = 3 ∧ b = 3
   ·rw [if_pos ⟨by omega, by omega, .inl ⟨by omega, by omega⟩⟩] at e
    (first | refine Post.brT (by simp only [zA, zB, zC, zD, zE, zF, zG, zH, zI, zJ, zK, zL, zM, zN]; omega) ?_ | refine Post.brF (by simp only [zA, zB, zC, zD, zE, zF, zG, zH, zI, zJ, zK, zL, zM, zN]; omega) ?_)
    refine ptab (k + 1) rfl (by omega) ?_
    rw [part_at]
    (first | refine Post.brT (by simp only [zA, zB, zC, zD, zE, zF, zG, zH, zI, zJ, zK, zL, zM, zN]; omega) ?_ | refine Post.brF (by simp only [zA, zB, zC, zD, zE, zF, zG, zH, zI, zJ, zK, zL, zM, zN]; omega) ?_)
    (first | refine Post.brT (by simp only [zA, zB, zC, zD, zE, zF, zG, zH, zI, zJ, zK, zL, zM, zN]; omega) ?_ | refine Post.brF (by simp only [zA, zB, zC, zD, zE, zF, zG, zH, zI, zJ, zK, zL, zM, zN]; omega) ?_)
    (first | refine Post.brT (by simp only [zA, zB, zC, zD, zE, zF, zG, zH, zI, zJ, zK, zL, zM, zN]; omega) ?_ | refine Post.brF (by simp only [zA, zB, zC, zD, zE, zF, zG, zH, zI, zJ, zK, zL, zM, zN]; omega) ?_)
    exact ptab (k + 1) rfl (by omega) (Post.pure (set e))
   ·by_cases h3 : g (k + 1) = 7 ∧ a = 6 ∧ b = 6
    ·rw [if_pos ⟨by omega, by omega, .inr ⟨by omega, by omega⟩⟩] at e
     (first | refine Post.brT (by simp only [zA, zB, zC, zD, zE, zF, zG, zH, zI, zJ, zK, zL, zM, zN]; omega) ?_ | refine Post.brF (by simp only [zA, zB, zC, zD, zE, zF, zG, zH, zI, zJ, zK, zL, zM, zN]; omega) ?_)
     refine ptab (k + 1) rfl (by omega) ?_
     rw [part_at]
     (first | refine Post.brT (by simp only [zA, zB, zC, zD, zE, zF, zG, zH, zI, zJ, zK, zL, zM, zN]; omega) ?_ | refine Post.brF (by simp only [zA, zB, zC, zD, zE, zF, zG, zH, zI, zJ, zK, zL, zM, zN]; omega) ?_)
     (first | refine Post.brT (by simp only [zA, zB, zC, zD, zE, zF, zG, zH, zI, zJ, zK, zL, zM, zN]; omega) ?_ | refine Post.brF (by simp only [zA, zB, zC, zD, zE, zF, zG, zH, zI, zJ, zK, zL, zM, zN]; omega) ?_)
     (first | refine Post.brT (by simp only [zA, zB, zC, zD, zE, zF, zG, zH, zI, zJ, zK, zL, zM, zN]; omega) ?_ | refine Post.brF (by simp only [zA, zB, zC, zD, zE, zF, zG, zH, zI, zJ, zK, zL, zM, zN]; omega) ?_)
     (first | refine Post.brT (by simp only [zA, zB, zC, zD, zE, zF, zG, zH, zI, zJ, zK, zL, zM, zN]; omega) ?_ | refine Post.brF (by simp only [zA, zB, zC, zD, zE, zF, zG, zH, zI, zJ, zK, zL, zM, zN]; omega) ?_)
     exact ptab (k + 1) rfl (by omega) (Post.pure (set e))
    ·rw [if_neg (fun h => by have := h.2.2; unfold Jn at this; omega)] at e
     refine Post.br (fun c1 => ?_) (fun c1 => ?_) <;> simp only [zA, zB, zC, zD, zE, zF, zG, zH, zI, zJ, zK, zL, zM, zN] at c1
     ·refine Post.br (fun c2 => ?_) (fun c2 => ?_) <;> simp only [zA, zB, zC, zD, zE, zF, zG, zH, zI, zJ, zK, zL, zM, zN] at c2
      ·(first | refine Post.brT (by simp only [zA, zB, zC, zD, zE, zF, zG, zH, zI, zJ, zK, zL, zM, zN]; omega) ?_ | refine Post.brF (by simp only [zA, zB, zC, zD, zE, zF, zG, zH, zI, zJ, zK, zL, zM, zN]; omega) ?_)
       refine ptab (k + 1) rfl (by omega) ?_
       rw [part_at]
       (first | refine Post.brT (by simp only [zA, zB, zC, zD, zE, zF, zG, zH, zI, zJ, zK, zL, zM, zN]; omega) ?_ | refine Post.brF (by simp only [zA, zB, zC, zD, zE, zF, zG, zH, zI, zJ, zK, zL, zM, zN]; omega) ?_)
       exact Post.pure (keep e)
      ·refine ptab (k + 1) rfl (by omega) ?_
       rw [part_at]
       (first | refine Post.brT (by simp only [zA, zB, zC, zD, zE, zF, zG, zH, zI, zJ, zK, zL, zM, zN]; omega) ?_ | refine Post.brF (by simp only [zA, zB, zC, zD, zE, zF, zG, zH, zI, zJ, zK, zL, zM, zN]; omega) ?_)
       exact Post.pure (keep e)
     ·refine ptab (k + 1) rfl (by omega) ?_
      rw [part_at]
      refine Post.br (fun c2 => ?_) (fun c2 => ?_) <;> simp only [zA, zB, zC, zD, zE, zF, zG, zH, zI, zJ, zK, zL, zM, zN] at c2
      ·refine Post.br (fun c3 => ?_) (fun c3 => ?_) <;> simp only [zA, zB, zC, zD, zE, zF, zG, zH, zI, zJ, zK, zL, zM, zN] at c3
       ·(first | refine Post.brT (by simp only [zA, zB, zC, zD, zE, zF, zG, zH, zI, zJ, zK, zL, zM, zN]; omega) ?_ | refine Post.brF (by simp only [zA, zB, zC, zD, zE, zF, zG, zH, zI, zJ, zK, zL, zM, zN]; omega) ?_)
        (first | refine Post.brT (by simp only [zA, zB, zC, zD, zE, zF, zG, zH, zI, zJ, zK, zL, zM, zN]; omega) ?_ | refine Post.brF (by simp only [zA, zB, zC, zD, zE, zF, zG, zH, zI, zJ, zK, zL, zM, zN]; omega) ?_)
        exact Post.pure (keep e)
       ·refine Post.br (fun c4 => ?_) (fun c4 => ?_) <;> simp only [zA, zB, zC, zD, zE, zF, zG, zH, zI, zJ, zK, zL, zM, zN] at c4
        ·(first | refine Post.brT (by simp only [zA, zB, zC, zD, zE, zF, zG, zH, zI, zJ, zK, zL, zM, zN]; omega) ?_ | refine Post.brF (by simp only [zA, zB, zC, zD, zE, zF, zG, zH, zI, zJ, zK, zL, zM, zN]; omega) ?_)
         exact Post.pure (keep e)
        ·exact Post.pure (keep e)
      ·exact Post.pure (keep e)
 ·dsimp only
  unfold ref14_rule4_L3
  rw [tab_len]
  (first | refine Post.brT (by simp only [zA, zB, zC, zD, zE, zF, zG, zH, zI, zJ, zK, zL, zM, zN]; omega) ?_ | refine Post.brF (by simp only [zA, zB, zC, zD, zE, zF, zG, zH, zI, zJ, zK, zL, zM, zN]; omega) ?_)
  refine Post.pure ?_
  rw [show tab n (part (m4 n g) g (n - 1 + 1)) = tab n (m4 n g) from tab_congr fun i hi => if_pos (by omega)]
theorem rL7 (g : Nat → Int) (n : Nat) (hn : n ≤ 4194304) (sos : Int) (out : List Int) (q : Int) : ∀ k : Nat, k < n → ∃ i : Int, -1 ≤ i ∧ i ≤ k ∧ (i = -1 ∧ l5 sos g (k + 1) = sos ∨ ∃ j : Nat, i = j ∧ g j ≠ 5 ∧ l5 sos g (k + 1) = g j) ∧
  loopW (fun s : List Int × List Int × Int × Int => (ref14_rule5_L7 s.1 s.2.1 s.2.2.1 s.2.2.2).run) (tab n g, out, q, (k : Int)) = some (tab n g, out, q, i) := by
 intro k
 induction k with
 | zero =>
  intro hk
  by_cases h : g 0 = 5
  ·refine ⟨-1, by omega, by omega, .inl ⟨rfl, by rw [l5_succ, if_pos h]; rfl⟩, loopW_next (s' := (tab n g, out, q, -1)) (Post.run ?_) (loopW_done (Post.run ?_))⟩
   ·dsimp only
    unfold ref14_rule5_L7
    (first | refine Post.brT (by simp only [zA, zB, zC, zD, zE, zF, zG, zH, zI, zJ, zK, zL, zM, zN]; omega) ?_ | refine Post.brF (by simp only [zA, zB, zC, zD, zE, zF, zG, zH, zI, zJ, zK, zL, zM, zN]; omega) ?_)
    refine ptab 0 rfl hk ?_
    (first | refine Post.brT (by simp only [zA, zB, zC, zD, zE, zF, zG, zH, zI, zJ, zK, zL, zM, zN]; omega) ?_ | refine Post.brF (by simp only [zA, zB, zC, zD, zE, zF, zG, zH, zI, zJ, zK, zL, zM, zN]; omega) ?_)
    exact Post.pure rfl
   ·dsimp only
    unfold ref14_rule5_L7
    (first | refine Post.brT (by simp only [zA, zB, zC, zD, zE, zF, zG, zH, zI, zJ, zK, zL, zM, zN]; omega) ?_ | refine Post.brF (by simp only [zA, zB, zC, zD, zE, zF, zG, zH, zI, zJ, zK, zL, zM, zN]; omega) ?_)
    exact Post.pure rfl
  ·refine ⟨0, by omega, by omega, .inr ⟨0, rfl, h, by rw [l5_succ, if_neg h]⟩, loopW_done (Post.run ?_)⟩
   dsimp only
   unfold ref14_rule5_L7
   (first | refine Post.brT (by simp only [zA, zB, zC, zD, zE, zF, zG, zH, zI, zJ, zK, zL, zM, zN]; omega) ?_ | refine Post.brF (by simp only [zA, zB, zC, zD, zE, zF, zG, zH, zI, zJ, zK, zL, zM, zN]; omega) ?_)
   refine ptab 0 rfl hk ?_
   (first | refine Post.brT (by simp only [zA, zB, zC, zD, zE, zF, zG, zH, zI, zJ, zK, zL, zM, zN]; omega) ?_ | refine Post.brF (by simp only [zA, zB, zC, zD, zE, zF, zG, zH, zI, zJ, zK, zL, zM, zN]; omega) ?_)
   exact Post.pure rfl
 | succ k ih =>
  intro hk
  by_cases h : g (k + 1) = 5
  ·obtain ⟨i, i1, i2, i3, i4⟩ := ih (by omega)
   refine ⟨i, i1, by omega, ?_, loopW_next (Post.run ?_) i4⟩
   ·rw [l5_succ, if_pos h]; exact i3
   ·dsimp only
    unfold ref14_rule5_L7
    (first | refine Post.brT (by simp only [zA, zB, zC, zD, zE, zF, zG, zH, zI, zJ, zK, zL, zM, zN]; omega) ?_ | refine Post.brF (by simp only [zA, zB, zC, zD, zE, zF, zG, zH, zI, zJ, zK, zL, zM, zN]; omega) ?_)
    refine ptab (k + 1) rfl hk ?_
    (first | refine Post.brT (by simp only [zA, zB, zC, zD, zE, zF, zG, zH, zI, zJ, zK, zL, zM, zN]; omega) ?_ | refine Post.brF (by simp only [zA, zB, zC, zD, zE, zF, zG, zH, zI, zJ, zK, zL, zM, zN]; omega) ?_)
    exact Post.pure (by rw [wrap64 (by omega) (by omega), show ((k + 1 : Nat) : Int) - 1 = (k : Int) by omega])
  ·refine ⟨((k + 1 : Nat) : Int), by omega, by omega, .inr ⟨k + 1, rfl, h, by rw [l5_succ, if_neg h]⟩, loopW_done (Post.run ?_)⟩
   dsimp only
   unfold ref14_rule5_L7
   (first | refine Post.brT (by simp only [zA, zB, zC, zD, zE, zF, zG, zH, zI, zJ, zK, zL, zM, zN]; omega) ?_ | refine Post.brF (by simp only [zA, zB, zC, zD, zE, zF, zG, zH, zI, zJ, zK, zL, zM, zN]; omega) ?_)
   refine ptab (k + 1) rfl hk ?_
   (first | refine Post.brT (by simp only [zA, zB, zC, zD, zE, zF, zG, zH, zI, zJ, zK, zL, zM, zN]; omega) ?_ | refine Post.brF (by simp only [zA, zB, zC, zD, zE, zF, zG, zH, zI, zJ, zK, zL, zM, zN]; omega) ?_)
   exact Post.pure rfl
theorem rL10 (g : Nat → Int) (n : Nat) (hn : n ≤ 4194304) (out : List Int) (q i : Int) : ∀ (d k : Nat), k + d = n → ∃ j : Nat, k ≤ j ∧ j ≤ n ∧ r5 n g k = (if j < n then g j else -1) ∧
  loopW (fun s : List Int × List Int × Int × Int × Int => (ref14_rule5_L10 s.1 s.2.1 s.2.2.1 s.2.2.2.1 s.2.2.2.2).run) (tab n g, out, q, i, (k : Int)) = some (tab n g, out, q, i, (j : Int)) := by
 intro d
 induction d with
 | zero =>
  intro k hk
  refine ⟨k, by omega, by omega, by rw [r5_eq, if_neg (by omega), if_neg (by omega)], loopW_done (Post.run ?_)⟩
  dsimp only
  unfold ref14_rule5_L10
  rw [tab_len]
  (first | refine Post.brT (by simp only [zA, zB, zC, zD, zE, zF, zG, zH, zI, zJ, zK, zL, zM, zN]; omega) ?_ | refine Post.brF (by simp only [zA, zB, zC, zD, zE, zF, zG, zH, zI, zJ, zK, zL, zM, zN]; omega) ?_)
  exact Post.pure rfl
 | succ d ih =>
  intro k hk
  by_cases h : g k = 5
  ·obtain ⟨j, j1, j2, j3, j4⟩ := ih (k + 1) (by omega)
   refine ⟨j, by omega, j2, by rw [r5_eq, if_pos (by omega), if_pos h]; exact j3, loopW_next (Post.run ?_) j4⟩
   dsimp only
   unfold ref14_rule5_L10
   rw [tab_len]
   (first | refine Post.brT (by simp only [zA, zB, zC, zD, zE, zF, zG, zH, zI, zJ, zK, zL, zM, zN]; omega) ?_ | refine Post.brF (by simp only [zA, zB, zC, zD, zE, zF, zG, zH, zI, zJ, zK, zL, zM, zN]; omega) ?_)
   refine ptab k rfl (by omega) ?_
   (first | refine Post.brT (by simp only [zA, zB, zC, zD, zE, zF, zG, zH, zI, zJ, zK, zL, zM, zN]; omega) ?_ | refine Post.brF (by simp only [zA, zB, zC, zD, zE, zF, zG, zH, zI, zJ, zK, zL, zM, zN]; omega) ?_)
   exact Post.pure (by rw [wrap_succ (by omega)])
  ·refine ⟨k, by omega, by omega, by rw [r5_eq, if_pos (by omega), if_neg h, if_pos (by omega)], loopW_done (Post.run ?_)⟩
   dsimp only
   unfold ref14_rule5_L10
   rw [tab_len]
   (first | refine Post.brT (by simp only [zA, zB, zC, zD, zE, zF, zG, zH, zI, zJ, zK, zL, zM, zN]; omega) ?_ | refine Post.brF (by simp only [zA, zB, zC, zD, zE, zF, zG, zH, zI, zJ, zK, zL, zM, zN]; omega) ?_)
   refine ptab k rfl (by omega) ?_
   (first | refine Post.brT (by simp only [zA, zB, zC, zD, zE, zF, zG, zH, zI, zJ, zK, zL, zM, zN]; omega) ?_ | refine Post.brF (by simp only [zA, zB, zC, zD, zE, zF, zG, zH, zI, zJ, zK, zL, zM, zN]; omega) ?_)
   exact Post.pure rfl
theorem rule5_F (sos : Int) (hs : sos = 0 ∨ sos = 1) (g : Nat → Int) (n : Nat) (hn : n ≤ 4194304) : ref14_rule5_F (tab n g) = some (tab n (m5 n sos g)) := by
 unfold ref14_rule5_F ref14_rule5_T
 refine Post.run (Post.bnd (copied_F _ (by rw [tab_len]; exact hn)) (Post.bnd (count (L := fun s : List Int × List Int × Int => ref14_rule5_L3 s.1 s.2.1 s.2.2) n (fun k => (tab n g, tab n (part (m5 n sos g) g k), (k : Int))) (r := tab n (m5 n sos g)) rfl (fun k hk => ?_) ?_) (Post.pure rfl)))
 ·dsimp only
  have e : m5 n sos g k = if g k = 5 ∧ (l5 sos g k = 3 ∨ r5 n g k = 3) then 3 else g k := rfl
  unfold ref14_rule5_L3
  rw [tab_len]
  (first | refine Post.brT (by simp only [zA, zB, zC, zD, zE, zF, zG, zH, zI, zJ, zK, zL, zM, zN]; omega) ?_ | refine Post.brF (by simp only [zA, zB, zC, zD, zE, zF, zG, zH, zI, zJ, zK, zL, zM, zN]; omega) ?_)
  (first | refine ptab _ rfl (by omega) ?_ | refine Post.bnd (idx_set_at (by omega) (by simp only [List.length_set, tab_len]; omega)) ?_)
  by_cases h : g k = 5
  ·(first | refine Post.brT (by simp only [zA, zB, zC, zD, zE, zF, zG, zH, zI, zJ, zK, zL, zM, zN]; omega) ?_ | refine Post.brF (by simp only [zA, zB, zC, zD, zE, zF, zG, zH, zI, zJ, zK, zL, zM, zN]; omega) ?_)
   obtain ⟨i, i1, i2, i3, i4⟩ := rL7 g n hn sos (tab n (part (m5 n sos g) g k)) (k : Int) k hk
   obtain ⟨j, j1, j2, j3, j4⟩ := rL10 g n hn (tab n (part (m5 n sos g) g k)) (k : Int) i (n - k) k (by omega)
   rw [l5_succ, if_pos h] at i3
   refine Post.bnd i4 (Post.bnd j4 ?_)
   dsimp only
   rw [tab_len, wrap_succ (by omega), toNat_nat]
   have set : m5 n sos g k = 3 → Post (Tr.bnd (idx (tab n (part (m5 n sos g) g k)) (k : Int)) fun _ => .pure (.next (tab n g, (tab n (part (m5 n sos g) g k)).set k 3, ((k + 1 : Nat) : Int)))) (· = (Lap.next (tab n g, tab n (part (m5 n sos g) g (k + 1)), ((k + 1 : Nat) : Int)) : Lap (List Int × List Int × Int) (List Int))) := fun e => ptab k rfl hk (Post.pure (by rw [part_set n e]))
   have right : l5 sos g k ≠ 3 → Post (Tr.br (decide ((j : Int) < (n : Int))) (.bnd (idx (tab n g) (j : Int)) fun x => .br (x == 3) (.bnd (idx (tab n (part (m5 n sos g) g k)) (k : Int)) fun _ => .pure (.next (tab n g, (tab n (part (m5 n sos g) g k)).set k 3, ((k + 1 : Nat) : Int)))) (.pure (.next (tab n g, tab n (part (m5 n sos g) g k), ((k + 1 : Nat) : Int))))) (.pure (.next (tab n g, tab n (part (m5 n sos g) g k), ((k + 1 : Nat) : Int))))) (· = (Lap.next (tab n g, tab n (part (m5 n sos g) g (k + 1)), ((k + 1 : Nat) : Int)) : Lap (List Int × List Int × Int) (List Int))) := by
    intro hl
    by_cases hj : j < n
    ·rw [if_pos hj] at j3
     (first | refine Post.brT (by simp only [zA, zB, zC, zD, zE, zF, zG, zH, zI, zJ, zK, zL, zM, zN]; omega) ?_ | refine Post.brF (by simp only [zA, zB, zC, zD, zE, zF, zG, zH, zI, zJ, zK, zL, zM, zN]; omega) ?_)
     (first | refine ptab _ rfl (by omega) ?_ | refine Post.bnd (idx_set_at (by omega) (by simp only [List.length_set, tab_len]; omega)) ?_)
     by_cases h3 : g j = 3
     ·(first | refine Post.brT (by simp only [zA, zB, zC, zD, zE, zF, zG, zH, zI, zJ, zK, zL, zM, zN]; omega) ?_ | refine Post.brF (by simp only [zA, zB, zC, zD, zE, zF, zG, zH, zI, zJ, zK, zL, zM, zN]; omega) ?_)
      exact set (by rw [e, if_pos ⟨h, .inr (by omega)⟩])
     ·(first | refine Post.brT (by simp only [zA, zB, zC, zD, zE, zF, zG, zH, zI, zJ, zK, zL, zM, zN]; omega) ?_ | refine Post.brF (by simp only [zA, zB, zC, zD, zE, zF, zG, zH, zI, zJ, zK, zL, zM, zN]; omega) ?_)
      exact Post.pure (by rw [← part_keep n (by rw [e, if_neg (by omega)])])
    ·rw [if_neg hj] at j3
     (first | refine Post.brT (by simp only [zA, zB, zC, zD, zE, zF, zG, zH, zI, zJ, zK, zL, zM, zN]; omega) ?_ | refine Post.brF (by simp only [zA, zB, zC, zD, zE, zF, zG, zH, zI, zJ, zK, zL, zM, zN]; omega) ?_)
     exact Post.pure (by rw [← part_keep n (by rw [e, if_neg (by omega)])])
   rcases i3 with ⟨rfl, i5⟩ | ⟨q, rfl, i5, i6⟩
   ·(first | refine Post.brT (by simp only [zA, zB, zC, zD, zE, zF, zG, zH, zI, zJ, zK, zL, zM, zN]; omega) ?_ | refine Post.brF (by simp only [zA, zB, zC, zD, zE, zF, zG, zH, zI, zJ, zK, zL, zM, zN]; omega) ?_)
    exact right (by omega)
   ·(first | refine Post.brT (by simp only [zA, zB, zC, zD, zE, zF, zG, zH, zI, zJ, zK, zL, zM, zN]; omega) ?_ | refine Post.brF (by simp only [zA, zB, zC, zD, zE, zF, zG, zH, zI, zJ, zK, zL, zM, zN]; omega) ?_)
    (first | refine ptab _ rfl (by omega) ?_ | refine Post.bnd (idx_set_at (by omega) (by simp only [List.length_set, tab_len]; omega)) ?_)
    by_cases h3 : g q = 3
    ·(first | refine Post.brT (by simp only [zA, zB, zC, zD, zE, zF, zG, zH, zI, zJ, zK, zL, zM, zN]; omega) ?_ | refine Post.brF (by simp only [zA, zB, zC, zD, zE, zF, zG, zH, zI, zJ, zK, zL, zM, zN]; omega) ?_)
     exact set (by rw [e, if_pos ⟨h, .inl (by omega)⟩])
    ·(first | refine Post.brT (by simp only [zA, zB, zC, zD, zE, zF, zG, zH, zI, zJ, zK, zL, zM, zN]; omega) ?_ | refine Post.brF (by simp only [zA, zB, zC, zD, zE, zF, zG, zH, zI, zJ, zK, zL, zM, zN]; omega) ?_)
     exact right (by omega)
  ·(first | refine Post.brT (by simp only [zA, zB, zC, zD, zE, zF, zG, zH, zI, zJ, zK, zL, zM, zN]; omega) ?_ | refine Post.brF (by simp only [zA, zB, zC, zD, zE, zF, zG, zH, zI, zJ, zK, zL, zM, zN]; omega) ?_)
   exact Post.pure (by rw [wrap_succ (by omega), ← part_keep n (by rw [e, if_neg (fun hh => h hh.1)])])
 ·dsimp only
  unfold ref14_rule5_L3
  rw [tab_len]
  (first | refine Post.brT (by simp only [zA, zB, zC, zD, zE, zF, zG, zH, zI, zJ, zK, zL, zM, zN]; omega) ?_ | refine Post.brF (by simp only [zA, zB, zC, zD, zE, zF, zG, zH, zI, zJ, zK, zL, zM, zN]; omega) ?_)
  exact Post.pure (by rw [part_end])
theorem rule6_F (g : Nat → Int) (n : Nat) (hn : n ≤ 4194304) : ref14_rule6_F (tab n g) = some (tab n (m6 g)) := by
 unfold ref14_rule6_F ref14_rule6_T
 refine Post.run (Post.bnd (copied_F _ (by rw [tab_len]; exact hn)) (Post.bnd (count (L := fun s : List Int × Int => ref14_rule6_L3 s.1 s.2) n (fun k => (tab n (part (m6 g) g k), (k : Int))) (r := tab n (m6 g)) rfl (fun k hk => ?_) ?_) (Post.pure rfl)))
 ·dsimp only
  have e : m6 g k = if g k = 4 ∨ g k = 5 ∨ g k = 7 then 13 else g k := rfl
  have set : m6 g k = 13 → (Lap.next ((tab n (part (m6 g) g k)).set (Int.toNat (k : Int)) 13, IntKind.i64.wrap ((k : Int) + 1)) : Lap (List Int × Int) (List Int)) = Lap.next (tab n (part (m6 g) g (k + 1)), ((k + 1 : Nat) : Int)) := fun e => by rw [toNat_nat, wrap_succ (by omega), part_set n e]
  unfold ref14_rule6_L3
  rw [tab_len]
  (first | refine Post.brT (by simp only [zA, zB, zC, zD, zE, zF, zG, zH, zI, zJ, zK, zL, zM, zN]; omega) ?_ | refine Post.brF (by simp only [zA, zB, zC, zD, zE, zF, zG, zH, zI, zJ, zK, zL, zM, zN]; omega) ?_)
  (first | refine ptab _ rfl (by omega) ?_ | refine Post.bnd (idx_set_at (by omega) (by simp only [List.length_set, tab_len]; omega)) ?_)
  rw [part_at]
  by_cases h1 : g k = 4
  ·(first | refine Post.brT (by simp only [zA, zB, zC, zD, zE, zF, zG, zH, zI, zJ, zK, zL, zM, zN]; omega) ?_ | refine Post.brF (by simp only [zA, zB, zC, zD, zE, zF, zG, zH, zI, zJ, zK, zL, zM, zN]; omega) ?_)
   (first | refine ptab _ rfl (by omega) ?_ | refine Post.bnd (idx_set_at (by omega) (by simp only [List.length_set, tab_len]; omega)) ?_)
   exact Post.pure (set (by rw [e, if_pos (by omega)]))
  ·(first | refine Post.brT (by simp only [zA, zB, zC, zD, zE, zF, zG, zH, zI, zJ, zK, zL, zM, zN]; omega) ?_ | refine Post.brF (by simp only [zA, zB, zC, zD, zE, zF, zG, zH, zI, zJ, zK, zL, zM, zN]; omega) ?_)
   (first | refine ptab _ rfl (by omega) ?_ | refine Post.bnd (idx_set_at (by omega) (by simp only [List.length_set, tab_len]; omega)) ?_)
   rw [part_at]
   by_cases h2 : g k = 5
   ·(first | refine Post.brT (by simp only [zA, zB, zC, zD, zE, zF, zG, zH, zI, zJ, zK, zL, zM, zN]; omega) ?_ | refine Post.brF (by simp only [zA, zB, zC, zD, zE, zF, zG, zH, zI, zJ, zK, zL, zM, zN]; omega) ?_)
    (first | refine ptab _ rfl (by omega) ?_ | refine Post.bnd (idx_set_at (by omega) (by simp only [List.length_set, tab_len]; omega)) ?_)
    exact Post.pure (set (by rw [e, if_pos (by omega)]))
   ·(first | refine Post.brT (by simp only [zA, zB, zC, zD, zE, zF, zG, zH, zI, zJ, zK, zL, zM, zN]; omega) ?_ | refine Post.brF (by simp only [zA, zB, zC, zD, zE, zF, zG, zH, zI, zJ, zK, zL, zM, zN]; omega) ?_)
    (first | refine ptab _ rfl (by omega) ?_ | refine Post.bnd (idx_set_at (by omega) (by simp only [List.length_set, tab_len]; omega)) ?_)
    rw [part_at]
    by_cases h3 : g k = 7
    ·(first | refine Post.brT (by simp only [zA, zB, zC, zD, zE, zF, zG, zH, zI, zJ, zK, zL, zM, zN]; omega) ?_ | refine Post.brF (by simp only [zA, zB, zC, zD, zE, zF, zG, zH, zI, zJ, zK, zL, zM, zN]; omega) ?_)
     (first | refine ptab _ rfl (by omega) ?_ | refine Post.bnd (idx_set_at (by omega) (by simp only [List.length_set, tab_len]; omega)) ?_)
     exact Post.pure (set (by rw [e, if_pos (by omega)]))
    ·(first | refine Post.brT (by simp only [zA, zB, zC, zD, zE, zF, zG, zH, zI, zJ, zK, zL, zM, zN]; omega) ?_ | refine Post.brF (by simp only [zA, zB, zC, zD, zE, zF, zG, zH, zI, zJ, zK, zL, zM, zN]; omega) ?_)
     exact Post.pure (by rw [wrap_succ (by omega), ← part_keep n (by rw [e, if_neg (by omega)])])
 ·dsimp only
  unfold ref14_rule6_L3
  rw [tab_len]
  (first | refine Post.brT (by simp only [zA, zB, zC, zD, zE, zF, zG, zH, zI, zJ, zK, zL, zM, zN]; omega) ?_ | refine Post.brF (by simp only [zA, zB, zC, zD, zE, zF, zG, zH, zI, zJ, zK, zL, zM, zN]; omega) ?_)
  exact Post.pure (by rw [part_end])
theorem rule7_F (sos : Int) (g : Nat → Int) (h2 : ∀ i, g i ≠ 2) (n : Nat) (hn : n ≤ 4194304) : ref14_rule7_F (tab n g) sos = some (tab n (m7 sos g)) := by
 unfold ref14_rule7_F ref14_rule7_T
 refine Post.run (Post.bnd (copied_F _ (by rw [tab_len]; exact hn)) (Post.bnd (count (L := fun s : List Int × Int × List Int × Int => ref14_rule7_L3 s.1 s.2.1 s.2.2.1 s.2.2.2) n (fun k => (tab n g, sos, tab n (part (m7 sos g) g k), (k : Int))) (r := tab n (m7 sos g)) rfl (fun k hk => ?_) ?_) (Post.pure rfl)))
 ·dsimp only
  have e : m7 sos g k = if g k = 3 ∧ s7 sos g k = 0 then 0 else g k := rfl
  unfold ref14_rule7_L3
  rw [tab_len]
  (first | refine Post.brT (by simp only [zA, zB, zC, zD, zE, zF, zG, zH, zI, zJ, zK, zL, zM, zN]; omega) ?_ | refine Post.brF (by simp only [zA, zB, zC, zD, zE, zF, zG, zH, zI, zJ, zK, zL, zM, zN]; omega) ?_)
  (first | refine ptab _ rfl (by omega) ?_ | refine Post.bnd (idx_set_at (by omega) (by simp only [List.length_set, tab_len]; omega)) ?_)
  by_cases h1 : g k = 3
  ·(first | refine Post.brT (by simp only [zA, zB, zC, zD, zE, zF, zG, zH, zI, zJ, zK, zL, zM, zN]; omega) ?_ | refine Post.brF (by simp only [zA, zB, zC, zD, zE, zF, zG, zH, zI, zJ, zK, zL, zM, zN]; omega) ?_)
   refine Post.bnd (refStrong_F sos g n k hn (by omega)) ?_
   rw [s7_s2 sos g h2]
   by_cases h3 : s7 sos g k = 0
   ·(first | refine Post.brT (by simp only [zA, zB, zC, zD, zE, zF, zG, zH, zI, zJ, zK, zL, zM, zN]; omega) ?_ | refine Post.brF (by simp only [zA, zB, zC, zD, zE, zF, zG, zH, zI, zJ, zK, zL, zM, zN]; omega) ?_)
    rw [if_pos ⟨h1, h3⟩] at e
    (first | refine ptab _ rfl (by omega) ?_ | refine Post.bnd (idx_set_at (by omega) (by simp only [List.length_set, tab_len]; omega)) ?_)
    exact Post.pure (by rw [toNat_nat, wrap_succ (by omega), part_set n e])
   ·(first | refine Post.brT (by simp only [zA, zB, zC, zD, zE, zF, zG, zH, zI, zJ, zK, zL, zM, zN]; omega) ?_ | refine Post.brF (by simp only [zA, zB, zC, zD, zE, zF, zG, zH, zI, zJ, zK, zL, zM, zN]; omega) ?_)
    rw [if_neg (by omega)] at e
    exact Post.pure (by rw [wrap_succ (by omega), ← part_keep n e])
  ·(first | refine Post.brT (by simp only [zA, zB, zC, zD, zE, zF, zG, zH, zI, zJ, zK, zL, zM, zN]; omega) ?_ | refine Post.brF (by simp only [zA, zB, zC, zD, zE, zF, zG, zH, zI, zJ, zK, zL, zM, zN]; omega) ?_)
   rw [if_neg (by omega)] at e
   exact Post.pure (by rw [wrap_succ (by omega), ← part_keep n e])
 ·dsimp only
  unfold ref14_rule7_L3
  rw [tab_len]
  (first | refine Post.brT (by simp only [zA, zB, zC, zD, zE, zF, zG, zH, zI, zJ, zK, zL, zM, zN]; omega) ?_ | refine Post.brF (by simp only [zA, zB, zC, zD, zE, zF, zG, zH, zI, zJ, zK, zL, zM, zN]; omega) ?_)
  exact Post.pure (by rw [part_end])
theorem weak_F (sos : Int) (hs : sos = 0 ∨ sos = 1) (g : Nat → Int) (n : Nat) (hn : n ≤ 4194304) : ref14_Weak_F (tab n g) sos = some (tab n (W n sos g)) := by
 unfold ref14_Weak_F ref14_Weak_T
 exact Post.run (Post.bnd (rule1_F sos g n hn) (Post.bnd (rule2_F sos _ n hn) (Post.bnd (rule3_F _ n hn) (Post.bnd (rule4_F _ n hn) (Post.bnd (rule5_F sos hs _ n hn) (Post.bnd (rule6_F _ n hn) (Post.bnd (rule7_F sos _ (no2 _ _ _) n hn) (Post.pure rfl))))))))
end Go.Proofs.YtenbhmjcoljddaaGreatDoor.Wk
