/-
  Neutral classes: what the program makes of them, and the document's answer.
-/
import Derived.Test.YtaahkcepdgmagaaDoorLawMirC
namespace Go.Proofs.YtaahkcepdgmagaaDoor
set_option linter.all false

/-! ### directions -/
def dir (c : Int) : Int := if c = 0 then 0 else if c = 1 ∨ c = 2 ∨ c = 3 ∨ c = 6 then 1 else 13
theorem dir_cases (c : Int) : (dir c = 0 ∧ c = 0) ∨ (dir c = 1 ∧ (c = 1 ∨ c = 2 ∨ c = 3 ∨ c = 6)) ∨ (dir c = 13 ∧ c ≠ 0 ∧ c ≠ 1 ∧ c ≠ 2 ∧ c ≠ 3 ∧ c ≠ 6) := by
  unfold dir
  by_cases h : c = 0
  · rw [if_pos h]; omega
  · rw [if_neg h]
    by_cases h2 : c = 1 ∨ c = 2 ∨ c = 3 ∨ c = 6
    · rw [if_pos h2]; omega
    · rw [if_neg h2]; omega
theorem dir_F (c : Int) : neutral_direction_F c = some (dir c) := by
  unfold neutral_direction_F neutral_direction_T
  have := dir_cases c
  refine Post.run ?_
  repeat' (first | exact Post.pure (by omega) | (refine Post.br (fun hbr => ?_) (fun hbr => ?_) <;> simp only [Bool.or_eq_true, Bool.and_eq_true, beq_iff_eq, bne_iff_ne, decide_eq_true_eq, ne_eq, Bool.not_eq_true', beq_eq_false_iff_ne, bne_eq_false_iff_eq, decide_eq_false_iff_not, Decidable.not_not, Bool.or_eq_false_iff, Bool.and_eq_false_iff, Bool.not_eq_false'] at hbr))
def sid (c : Int) : Int := if dir c = 13 then -1 else dir c
theorem side_F (c : Int) : ref14_side_F c = some (sid c) := by
  unfold ref14_side_F ref14_side_T
  have h := dir_cases c
  have : sid c = if dir c = 13 then -1 else dir c := rfl
  refine Post.run ?_
  repeat' (first | exact Post.pure (by split at this <;> omega) | (refine Post.br (fun hbr => ?_) (fun hbr => ?_) <;> simp only [Bool.or_eq_true, Bool.and_eq_true, beq_iff_eq, bne_iff_ne, decide_eq_true_eq, ne_eq, Bool.not_eq_true', beq_eq_false_iff_ne, bne_eq_false_iff_eq, decide_eq_false_iff_not, Decidable.not_not, Bool.or_eq_false_iff, Bool.and_eq_false_iff, Bool.not_eq_false'] at hbr))
def emb (l : Int) : Int := if 0 < l ∧ l % 2 = 1 then 1 else 0
theorem level_F (l : Int) : neutral_Level_F l = some (emb l) := by
  unfold neutral_Level_F neutral_Level_T emb
  by_cases h : 0 < l
  · rw [Int.tmod_eq_emod_of_nonneg (by omega)]
    by_cases h2 : l % 2 = 1
    · rw [if_pos ⟨h, h2⟩]
      exact Post.run (Post.brT (decide_eq_true h) (Post.brT (beq_iff_eq.2 h2) (Post.pure rfl)))
    · rw [if_neg (by omega)]
      exact Post.run (Post.brT (decide_eq_true h) (Post.brF (beq_eq_false_iff_ne.2 h2) (Post.pure rfl)))
  · rw [if_neg (by omega)]
    exact Post.run (Post.brF (decide_eq_false h) (Post.pure rfl))

/-! ### what stands on both sides -/
def pd (f : Nat → Int) (sos : Int) : Nat → Int
  | 0 => sos
  | k + 1 => if dir (f k) = 13 then pd f sos k else dir (f k)
def nx (f : Nat → Int) (eos : Int) : Nat → Nat → Int
  | 0, _ => eos
  | r + 1, k => if dir (f k) = 13 then nx f eos r (k + 1) else dir (f k)
def rest (f : Nat → Int) (sos eos e : Int) (n k : Nat) : Int := if dir (f k) = 13 then (if pd f sos k = nx f eos (n - k) k then pd f sos k else e) else f k
theorem pd_run {f : Nat → Int} {sos : Int} {m : Nat} : ∀ j, (∀ i, m ≤ i → i < m + j → dir (f i) = 13) → pd f sos (m + j) = pd f sos m
  | 0, _ => rfl
  | j + 1, h => by
    rw [show m + (j + 1) = (m + j) + 1 by omega, show pd f sos (m + j + 1) = if dir (f (m + j)) = 13 then pd f sos (m + j) else dir (f (m + j)) from rfl, if_pos (h (m + j) (by omega) (by omega))]
    exact pd_run j fun i h1 h2 => h i h1 (by omega)
theorem nx_run {f : Nat → Int} {eos : Int} : ∀ j r m, (∀ i, m ≤ i → i < m + j → dir (f i) = 13) → nx f eos (r + j) m = nx f eos r (m + j)
  | 0, r, m, _ => rfl
  | j + 1, r, m, h => by
    rw [show r + (j + 1) = (r + j) + 1 by omega, show nx f eos (r + j + 1) m = if dir (f m) = 13 then nx f eos (r + j) (m + 1) else dir (f m) from rfl, if_pos (h m (by omega) (by omega)), nx_run j r (m + 1) (fun i h1 h2 => h i (by omega) (by omega)), show m + 1 + j = m + (j + 1) by omega]

theorem clone_F (cs : List Int) (hn : cs.length ≤ 4194304) : bidic_Class__F cs = some cs := by
  unfold bidic_Class__F bidic_Class__T
  exact Post.run (Post.bnd (app_eq (by simp; omega)) (Post.pure rfl))
theorem fill_F (xs : List Int) (a b e : Int) (hn : xs.length ≤ 4194304) : neutral_fill_F xs a b e = some (List.replicate xs.length (if a = b then a else e), ()) := by
  have loop : ∀ d, loopW (fun s : List Int × Int × Int × Int => (neutral_fill_L4 s.1 s.2.1 s.2.2.1 s.2.2.2).run) (xs, d, (xs.length : Int), 0) = some (List.replicate xs.length d) := by
    intro d
    refine count (L := fun s : List Int × Int × Int × Int => neutral_fill_L4 s.1 s.2.1 s.2.2.1 s.2.2.2) xs.length (fun k => (tab xs.length (part (fun _ => d) (fun i => xs.getD i 0) k), d, (xs.length : Int), (k : Int))) ?_ (fun k hk => ?_) ?_
    · rw [part_zero, ← tab_self]; rfl
    · dsimp only
      unfold neutral_fill_L4
      refine Post.brT (by rw [decide_eq_true_eq]; omega) (ptab k rfl hk (ptab k rfl hk (Post.pure ?_)))
      rw [wrap_succ (by omega), toNat_nat, part_set xs.length (m := fun _ => d) (k := k) rfl]
    · dsimp only
      unfold neutral_fill_L4
      exact Post.brF (by simp) (Post.pure (by rw [part_end, tab_rep]))
  unfold neutral_fill_F neutral_fill_T
  by_cases h : a = b
  · rw [if_pos h]
    exact Post.run (Post.brT (beq_iff_eq.2 h) (Post.bnd (loop a) (Post.pure rfl)))
  · rw [if_neg h]
    exact Post.run (Post.brF (beq_eq_false_iff_ne.2 h) (Post.bnd (loop e) (Post.pure rfl)))

theorem splice_tab {n m t : Nat} {g h : Nat → Int} {d : Int} (hm : m ≤ t) (ht : t ≤ n) (hd : ∀ i, m ≤ i → i < t → h i = d) : splice' (tab n (part h g m)) m (t - m) (List.replicate (t - m) d) = tab n (part h g t) := by
  unfold splice'
  apply List.ext_getElem?
  intro i
  have hl : (List.take m (tab n (part h g m))).length = m := by rw [List.length_take, tab_len]; omega
  have hl2 : (List.take m (tab n (part h g m)) ++ List.replicate (t - m) d).length = t := by rw [List.length_append, hl, List.length_replicate]; omega
  by_cases h1 : i < m
  · rw [List.getElem?_append_left (by rw [hl2]; omega), List.getElem?_append_left (by rw [hl]; exact h1), List.getElem?_take, if_pos h1, tab_get _ (by omega), tab_get _ (by omega)]
    unfold part
    rw [if_pos h1, if_pos (by omega)]
  · by_cases h2 : i < t
    · rw [List.getElem?_append_left (by rw [hl2]; exact h2), List.getElem?_append_right (by rw [hl]; omega), hl, List.getElem?_replicate, if_pos (by omega), tab_get _ (by omega)]
      unfold part
      rw [if_pos h2, hd i (by omega) h2]
    · rw [List.getElem?_append_right (by rw [hl2]; omega), hl2, List.getElem?_drop, show m + (t - m) + (i - t) = i by omega]
      by_cases h3 : i < n
      · rw [tab_get _ h3, tab_get _ h3]
        unfold part
        rw [if_neg h1, if_neg h2]
      · rw [List.getElem?_eq_none (by rw [tab_len]; omega), List.getElem?_eq_none (by rw [tab_len]; omega)]

/-! ### the program's -/
theorem inner_F (cs : List Int) (hn : cs.length ≤ 4194304) (l eos : Int) (out : List Int) (last : Int) (m : Nat) (hm : m < cs.length) :
    ∃ r, loopW (fun s : List Int × Int × Int × List Int × Int × Int × Int => (neutral_Rest_L6 s.1 s.2.1 s.2.2.1 s.2.2.2.1 s.2.2.2.2.1 s.2.2.2.2.2.1 s.2.2.2.2.2.2).run) (cs, l, eos, out, last, (m : Int), (m : Int)) = some r ∧
      ∃ t : Nat, m ≤ t ∧ t ≤ cs.length ∧ r = (cs, l, eos, out, last, (m : Int), (t : Int)) ∧ (∀ i, m ≤ i → i < t → dir (cs.getD i 0) = 13) ∧ (t < cs.length → dir (cs.getD t 0) ≠ 13) := by
  refine loop_ex (L := fun s : List Int × Int × Int × List Int × Int × Int × Int => neutral_Rest_L6 s.1 s.2.1 s.2.2.1 s.2.2.2.1 s.2.2.2.2.1 s.2.2.2.2.2.1 s.2.2.2.2.2.2) (fun s => ∃ t : Nat, m ≤ t ∧ t ≤ cs.length ∧ s = (cs, l, eos, out, last, (m : Int), (t : Int)) ∧ (∀ i, m ≤ i → i < t → dir (cs.getD i 0) = 13)) (fun s => cs.length - s.2.2.2.2.2.2.toNat) ?_ ⟨m, Nat.le_refl _, by omega, rfl, fun i h1 h2 => by omega⟩
  rintro s ⟨t, h1, h2, rfl, h3⟩
  dsimp only
  unfold neutral_Rest_L6
  by_cases e : t < cs.length
  · refine Post.brT (by rw [decide_eq_true_eq]; omega) (Post.idx 0 t rfl e (Post.bnd (dir_F _) ?_))
    by_cases e2 : dir (cs.getD t 0) = 13
    · refine Post.brT (beq_iff_eq.2 e2) (Post.pure ?_)
      rw [wrap_succ (by omega)]
      refine ⟨⟨t + 1, by omega, e, rfl, fun i g1 g2 => ?_⟩, by dsimp only; omega⟩
      rcases Nat.lt_or_ge i t with g | g
      · exact h3 i g1 g
      · rw [show i = t by omega]; exact e2
    · exact Post.brF (beq_eq_false_iff_ne.2 e2) (Post.pure ⟨t, h1, h2, rfl, h3, fun _ => e2⟩)
  · exact Post.brF (by rw [decide_eq_false_iff_not]; omega) (Post.pure ⟨t, h1, h2, rfl, h3, fun h => absurd h e⟩)
@[reducible] def fn (cs : List Int) (i : Nat) : Int := cs.getD i 0
theorem rest_F (cs : List Int) (l sos eos : Int) (hn : cs.length ≤ 4194304) : neutral_Rest_F cs l sos eos = some (tab cs.length (rest (fn cs) sos eos (emb l) cs.length)) := by
  unfold neutral_Rest_F neutral_Rest_T
  have hself : cs = tab cs.length (fn cs) := tab_self 0 cs
  refine Post.run (Post.bnd (clone_F cs hn) (Post.loop (L := fun s : List Int × Int × Int × List Int × Int × Int => neutral_Rest_L4 s.1 s.2.1 s.2.2.1 s.2.2.2.1 s.2.2.2.2.1 s.2.2.2.2.2)
    (fun s => ∃ (m : Nat) (out : List Int) (last : Int), m ≤ cs.length + 1 ∧ s = (cs, l, eos, out, last, (m : Int)) ∧ out = tab cs.length (part (rest (fn cs) sos eos (emb l) cs.length) (fn cs) m) ∧ (m ≤ cs.length → last = pd (fn cs) sos m)) (fun s => cs.length + 1 - s.2.2.2.2.2.toNat) (R := fun r => r = tab cs.length (rest (fn cs) sos eos (emb l) cs.length))
    ⟨0, cs, sos, by omega, rfl, by rw [part_zero]; exact hself, fun _ => rfl⟩ ?_ (fun r h => Post.pure h)))
  rintro s ⟨m, out, last, hm, rfl, ho, hlast⟩
  dsimp only
  unfold neutral_Rest_L4
  by_cases e : m < cs.length
  · refine Post.brT (by rw [decide_eq_true_eq]; omega) (Post.call (inner_F cs hn l eos out last m e) ?_)
    rintro _ ⟨t, h1, h2, rfl, h3, h4⟩
    dsimp only
    have hlast := hlast (by omega)
    have hol : out.length = cs.length := by rw [ho, tab_len]
    have hcut := cut_drop (xs := out) (lo := (m : Int)) (hi := (t : Int)) rfl rfl h1 (by omega)
    have hcl : ((out.take t).drop m).length = t - m := by rw [List.length_drop, List.length_take]; omega
    have hdl : ((out.drop m).take (t - m)).length = t - m := by rw [List.length_take, List.length_drop]; omega
    -- what is filled in
    have hd : ∀ next, next = nx (fn cs) eos (cs.length - t) t → ∀ i, m ≤ i → i < t → rest (fn cs) sos eos (emb l) cs.length i = if last = next then last else emb l := by
      intro next hnext i g1 g2
      have q1 : pd (fn cs) sos i = last := by
        have := pd_run (f := fn cs) (sos := sos) (m := m) (i - m) fun j j1 j2 => h3 j j1 (by omega)
        rw [show m + (i - m) = i by omega] at this
        rw [this, hlast]
      have q2 : nx (fn cs) eos (cs.length - i) i = next := by
        have := nx_run (f := fn cs) (eos := eos) (t - i) (cs.length - t) i fun j j1 j2 => h3 j (by omega) (by omega)
        rw [show cs.length - t + (t - i) = cs.length - i by omega, show i + (t - i) = t by omega] at this
        rw [this, hnext]
      unfold rest
      rw [if_pos (h3 i g1 g2), q1, q2]
    by_cases e2 : t < cs.length
    · have h4 := h4 e2
      have hnx : dir (cs.getD t 0) = nx (fn cs) eos (cs.length - t) t := by
        rw [show cs.length - t = (cs.length - t - 1) + 1 by omega]
        exact (if_neg h4).symm
      refine Post.brT (by rw [decide_eq_true_eq]; omega) (Post.idx 0 t rfl e2 (Post.bnd (dir_F _) (Post.bnd hcut (Post.bnd (level_F l) ?_))))
      rw [toNat_nat, hcl]
      refine Post.bnd (fill_F _ last _ (emb l) (by rw [hdl]; omega)) (Post.pure ?_)
      rw [hdl, ho, splice_tab h1 (by omega) (hd _ hnx), wrap_succ (by omega)]
      refine ⟨⟨t + 1, _, _, by omega, rfl, ?_, fun _ => ?_⟩, by dsimp only; omega⟩
      · exact part_keep cs.length (if_neg h4)
      · exact (if_neg h4).symm
    · have et : t = cs.length := by omega
      subst et
      refine Post.brF (by rw [decide_eq_false_iff_not]; omega) (Post.bnd hcut (Post.bnd (level_F l) ?_))
      rw [toNat_nat, hcl]
      refine Post.bnd (fill_F _ last eos (emb l) (by rw [hdl]; omega)) (Post.pure ?_)
      rw [hdl, ho, splice_tab h1 (Nat.le_refl _) (hd eos (by rw [Nat.sub_self]; rfl)), wrap_succ (by omega)]
      refine ⟨⟨cs.length + 1, _, _, Nat.le_refl _, rfl, ?_, fun h => by omega⟩, by dsimp only; omega⟩
      rw [part_end]
      exact tab_congr fun i hi => (if_pos (by omega)).symm
  · refine Post.brF (by rw [decide_eq_false_iff_not]; omega) (Post.pure ?_)
    rw [ho]
    exact tab_congr fun i hi => if_pos (by omega)

/-! ### the document's answer -/
theorem context_F (cs : List Int) (k : Nat) (sos : Int) (hn : cs.length ≤ 4194304) (hk : k ≤ cs.length) : ref14_context_F cs (k : Int) sos = some (pd (fn cs) sos k) := by
  unfold ref14_context_F ref14_context_T
  rw [wrap64 (by omega) (by omega)]
  refine Post.run (Post.alt (R := fun r => match r with | .inl v => pd (fn cs) sos k = v | .inr v => pd (fn cs) sos k = v) (loop_ex (L := fun s : List Int × Int × Int => ref14_context_L2 s.1 s.2.1 s.2.2) (fun s => ∃ m : Nat, m ≤ k ∧ s = (cs, sos, (m : Int) - 1) ∧ pd (fn cs) sos k = pd (fn cs) sos m) (fun s => (s.2.2 + 1).toNat) ?_ ⟨k, Nat.le_refl _, rfl, rfl⟩) (fun v h => Post.pure (show v = _ from h.symm)) (fun v h => Post.pure (show v = _ from h.symm)))
  rintro s ⟨m, hm, rfl, h⟩
  dsimp only
  unfold ref14_context_L2
  cases m with
  | zero => exact Post.brF (by rw [decide_eq_false_iff_not]; omega) (Post.pure h)
  | succ m =>
    rw [show ((m + 1 : Nat) : Int) - 1 = (m : Int) by omega]
    refine Post.brT (by rw [decide_eq_true_eq]; omega) (Post.idx 0 m rfl (by omega) (Post.bnd (side_F _) ?_))
    rw [show pd (fn cs) sos (m + 1) = if dir (fn cs m) = 13 then pd (fn cs) sos m else dir (fn cs m) from rfl] at h
    have hd := dir_cases (cs.getD m 0)
    by_cases e : dir (cs.getD m 0) = 13
    · rw [if_pos e] at h
      have hs : sid (cs.getD m 0) = -1 := if_pos e
      rw [hs]
      refine Post.brF (by decide) (Post.pure ?_)
      rw [wrap64 (by omega) (by omega)]
      exact ⟨⟨m, by omega, rfl, h⟩, by dsimp only; omega⟩
    · rw [if_neg e] at h
      have hs : sid (cs.getD m 0) = dir (cs.getD m 0) := if_neg e
      exact Post.brT (by rw [decide_eq_true_eq, hs]; omega) (Post.idx 0 m rfl (by omega) (Post.bnd (side_F _) (Post.pure (by rw [hs]; exact h))))
theorem copied_F (cs : List Int) (hn : cs.length ≤ 4194304) : ref14_copied_F cs = some cs := by
  unfold ref14_copied_F ref14_copied_T
  exact Post.run (Post.bnd (app_eq (by simp; omega)) (Post.pure rfl))

end Go.Proofs.YtaahkcepdgmagaaDoor
