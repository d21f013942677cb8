/-
  The laws of weak classes return true: the laws.
-/
import Derived.Test.YtgpmfpigldkgfaaLawWeakB
namespace Go.Proofs.Ytgpmfpigldkgfaa
set_option linter.all false

theorem classes_F (ns : List Int) (hn : ns.length ≤ 2097152) (h8 : ∀ n ∈ ns, 0 ≤ n ∧ n ≤ 255) : law08_Classes_F ns = some (tab ns.length fun i => (ns.getD i 0) % 23) := by
  unfold law08_Classes_F law08_Classes_T
  refine Post.run ?_
  refine Post.bnd (count (L := fun s : List Int × List Int × Int => law08_Classes_L3 s.1 s.2.1 s.2.2) ns.length (fun k => (ns, tab k (fun i => (ns.getD i 0) % 23), (k : Int))) rfl (fun k hk => ?_) ?_) (Post.pure rfl)
  · have hm : 0 ≤ ns.getD k 0 ∧ ns.getD k 0 ≤ 255 := by
      refine h8 _ ?_
      simp [List.getD, hk]
    dsimp only
    unfold law08_Classes_L3
    (first | refine Post.brT (by simp only [Bool.or_eq_true, Bool.and_eq_true, beq_iff_eq, bne_iff_ne, decide_eq_true_eq, ne_eq, Bool.not_eq_true', beq_eq_false_iff_ne, bne_eq_false_iff_eq, decide_eq_false_iff_not, Decidable.not_not, Bool.or_eq_false_iff, Bool.and_eq_false_iff, Bool.not_eq_false']; omega) ?_ | refine Post.brF (by simp only [Bool.or_eq_true, Bool.and_eq_true, beq_iff_eq, bne_iff_ne, decide_eq_true_eq, ne_eq, Bool.not_eq_true', beq_eq_false_iff_ne, bne_eq_false_iff_eq, decide_eq_false_iff_not, Decidable.not_not, Bool.or_eq_false_iff, Bool.and_eq_false_iff, Bool.not_eq_false']; omega) ?_)
    refine Post.idx 0 k rfl hk ?_
    refine Post.bnd (app_eq (by rw [tab_len]; simp; omega)) (Post.pure ?_)
    rw [Int.tmod_eq_emod_of_nonneg hm.1, wrap_succ (by omega), ← tab_succ]
  · dsimp only
    unfold law08_Classes_L3
    (first | refine Post.brT (by simp only [Bool.or_eq_true, Bool.and_eq_true, beq_iff_eq, bne_iff_ne, decide_eq_true_eq, ne_eq, Bool.not_eq_true', beq_eq_false_iff_ne, bne_eq_false_iff_eq, decide_eq_false_iff_not, Decidable.not_not, Bool.or_eq_false_iff, Bool.and_eq_false_iff, Bool.not_eq_false']; omega) ?_ | refine Post.brF (by simp only [Bool.or_eq_true, Bool.and_eq_true, beq_iff_eq, bne_iff_ne, decide_eq_true_eq, ne_eq, Bool.not_eq_true', beq_eq_false_iff_ne, bne_eq_false_iff_eq, decide_eq_false_iff_not, Decidable.not_not, Bool.or_eq_false_iff, Bool.and_eq_false_iff, Bool.not_eq_false']; omega) ?_)
    exact Post.pure rfl
theorem ints_F (n : Nat) (g : Nat → Int) (hn : n ≤ 4194304) (h8 : ∀ i, 0 ≤ g i ∧ g i ≤ 255) : law10_Ints_F (tab n g) = some (tab n g) := by
  unfold law10_Ints_F law10_Ints_T
  rw [tab_len]
  refine Post.run (Post.bnd (count (L := fun s : List Int × List Int × Int × Int => law10_Ints_L3 s.1 s.2.1 s.2.2.1 s.2.2.2) n (fun k => (tab k g, tab n g, (n : Int), (k : Int))) rfl (fun k hk => ?_) ?_) (Post.pure rfl))
  · dsimp only
    unfold law10_Ints_L3
    have hm := h8 k
    (first | refine Post.brT (by simp only [Bool.or_eq_true, Bool.and_eq_true, beq_iff_eq, bne_iff_ne, decide_eq_true_eq, ne_eq, Bool.not_eq_true', beq_eq_false_iff_ne, bne_eq_false_iff_eq, decide_eq_false_iff_not, Decidable.not_not, Bool.or_eq_false_iff, Bool.and_eq_false_iff, Bool.not_eq_false']; omega) ?_ | refine Post.brF (by simp only [Bool.or_eq_true, Bool.and_eq_true, beq_iff_eq, bne_iff_ne, decide_eq_true_eq, ne_eq, Bool.not_eq_true', beq_eq_false_iff_ne, bne_eq_false_iff_eq, decide_eq_false_iff_not, Decidable.not_not, Bool.or_eq_false_iff, Bool.and_eq_false_iff, Bool.not_eq_false']; omega) ?_)
    (first | refine ptab _ rfl (by omega) ?_ | refine Post.bnd (idx_set_at (by omega) (by simp only [List.length_set, tab_len]; omega)) ?_)
    refine Post.bnd (app_eq (by rw [tab_len]; simp; omega)) (Post.pure ?_)
    rw [wrap64 (n := g k) (by omega) (by omega), wrap_succ (by omega), ← tab_succ]
  · dsimp only
    unfold law10_Ints_L3
    (first | refine Post.brT (by simp only [Bool.or_eq_true, Bool.and_eq_true, beq_iff_eq, bne_iff_ne, decide_eq_true_eq, ne_eq, Bool.not_eq_true', beq_eq_false_iff_ne, bne_eq_false_iff_eq, decide_eq_false_iff_not, Decidable.not_not, Bool.or_eq_false_iff, Bool.and_eq_false_iff, Bool.not_eq_false']; omega) ?_ | refine Post.brF (by simp only [Bool.or_eq_true, Bool.and_eq_true, beq_iff_eq, bne_iff_ne, decide_eq_true_eq, ne_eq, Bool.not_eq_true', beq_eq_false_iff_ne, bne_eq_false_iff_eq, decide_eq_false_iff_not, Decidable.not_not, Bool.or_eq_false_iff, Bool.and_eq_false_iff, Bool.not_eq_false']; omega) ?_)
    exact Post.pure rfl
theorem like_F (n : Nat) (g : Nat → Int) (hn : n ≤ 4194304) (h8 : ∀ i, 0 ≤ g i ∧ g i ≤ 255) : law14_Like_F (tab n g) (tab n g) = some true := by
  unfold law14_Like_F law14_Like_T
  rw [tab_len]
  refine Post.run (Post.brF (by simp) (Post.altL (b := ()) (count (L := fun s : List Int × List Int × Int => law14_Like_L4 s.1 s.2.1 s.2.2) n (fun k => (tab n g, tab n g, (k : Int))) rfl (fun k hk => ?_) ?_) (Post.pure rfl)))
  · dsimp only
    unfold law14_Like_L4
    have hm := h8 k
    rw [tab_len]
    (first | refine Post.brT (by simp only [Bool.or_eq_true, Bool.and_eq_true, beq_iff_eq, bne_iff_ne, decide_eq_true_eq, ne_eq, Bool.not_eq_true', beq_eq_false_iff_ne, bne_eq_false_iff_eq, decide_eq_false_iff_not, Decidable.not_not, Bool.or_eq_false_iff, Bool.and_eq_false_iff, Bool.not_eq_false']; omega) ?_ | refine Post.brF (by simp only [Bool.or_eq_true, Bool.and_eq_true, beq_iff_eq, bne_iff_ne, decide_eq_true_eq, ne_eq, Bool.not_eq_true', beq_eq_false_iff_ne, bne_eq_false_iff_eq, decide_eq_false_iff_not, Decidable.not_not, Bool.or_eq_false_iff, Bool.and_eq_false_iff, Bool.not_eq_false']; omega) ?_)
    (first | refine ptab _ rfl (by omega) ?_ | refine Post.bnd (idx_set_at (by omega) (by simp only [List.length_set, tab_len]; omega)) ?_)
    (first | refine ptab _ rfl (by omega) ?_ | refine Post.bnd (idx_set_at (by omega) (by simp only [List.length_set, tab_len]; omega)) ?_)
    rw [wrap64 (n := g k) (by omega) (by omega)]
    exact Post.brF (by simp) (Post.pure (by rw [wrap_succ (by omega)]))
  · dsimp only
    unfold law14_Like_L4
    rw [tab_len]
    (first | refine Post.brT (by simp only [Bool.or_eq_true, Bool.and_eq_true, beq_iff_eq, bne_iff_ne, decide_eq_true_eq, ne_eq, Bool.not_eq_true', beq_eq_false_iff_ne, bne_eq_false_iff_eq, decide_eq_false_iff_not, Decidable.not_not, Bool.or_eq_false_iff, Bool.and_eq_false_iff, Bool.not_eq_false']; omega) ?_ | refine Post.brF (by simp only [Bool.or_eq_true, Bool.and_eq_true, beq_iff_eq, bne_iff_ne, decide_eq_true_eq, ne_eq, Bool.not_eq_true', beq_eq_false_iff_ne, bne_eq_false_iff_eq, decide_eq_false_iff_not, Decidable.not_not, Bool.or_eq_false_iff, Bool.and_eq_false_iff, Bool.not_eq_false']; omega) ?_)
    exact Post.pure rfl
theorem side_F (b : Bool) : law14_Side_F b = some (if b = true then 1 else 0) := by
  unfold law14_Side_F law14_Side_T
  cases b <;> rfl

/-! ### what classes there are -/
def Rg (g : Nat → Int) : Prop := ∀ i, 0 ≤ g i ∧ g i ≤ 22
theorem Rg.m1 {g : Nat → Int} {sos : Int} (hs : sos = 0 ∨ sos = 1) (h : Rg g) : Rg (m1 sos g) := by
  intro i
  have hb : ∀ b : Int, 0 ≤ b ∧ b ≤ 22 → 0 ≤ blank b ∧ blank b ≤ 22 := fun b hb => by unfold blank; split <;> omega
  induction i with
  | zero =>
    have := h 0
    rw [m1_eq]
    split
    · exact hb _ (by show 0 ≤ sos ∧ sos ≤ 22; omega)
    · exact this
  | succ i ih =>
    have := h (i + 1)
    rw [m1_eq]
    split
    · exact hb _ ih
    · exact this
theorem Rg.m2 {g : Nat → Int} {sos : Int} (h : Rg g) : Rg (m2 sos g) := fun i => by have := h i; unfold Go.Proofs.Ytgpmfpigldkgfaa.m2; split <;> omega
theorem Rg.m3 {g : Nat → Int} (h : Rg g) : Rg (m3 g) := fun i => by have := h i; unfold Go.Proofs.Ytgpmfpigldkgfaa.m3; split <;> omega
theorem Rg.m4 {g : Nat → Int} {n : Nat} (h : Rg g) : Rg (m4 n g) := by
  intro i
  induction i with
  | zero => exact h 0
  | succ i ih =>
    unfold Go.Proofs.Ytgpmfpigldkgfaa.m4
    split
    · exact ih
    · exact h (i + 1)
theorem Rg.m5 {g : Nat → Int} {n : Nat} {sos : Int} (h : Rg g) : Rg (m5 n sos g) := fun i => by have := h i; unfold Go.Proofs.Ytgpmfpigldkgfaa.m5; split <;> omega
theorem Rg.m6 {g : Nat → Int} (h : Rg g) : Rg (m6 g) := fun i => by have := h i; unfold Go.Proofs.Ytgpmfpigldkgfaa.m6; split <;> omega
theorem Rg.m7 {g : Nat → Int} {sos : Int} (h : Rg g) : Rg (m7 sos g) := fun i => by have := h i; unfold Go.Proofs.Ytgpmfpigldkgfaa.m7; split <;> omega
theorem Rg.W {g : Nat → Int} {n : Nat} {sos : Int} (hs : sos = 0 ∨ sos = 1) (h : Rg g) : Rg (W n sos g) := (((((h.m1 hs).m2).m3).m4).m5).m6.m7
theorem Rg.wide {g : Nat → Int} (h : Rg g) (i : Nat) : 0 ≤ g i ∧ g i ≤ 255 := by have := h i; omega
theorem rg_mod (ns : List Int) : Rg fun i => (ns.getD i 0) % 23 := fun i => by dsimp only; omega
theorem side_01 (b : Bool) : (if b = true then (1 : Int) else 0) = 0 ∨ (if b = true then (1 : Int) else 0) = 1 := by cases b <;> simp

theorem resolve_list (sos : Int) (hs : sos = 0 ∨ sos = 1) (cs : List Int) (hn : cs.length ≤ 4194304) : weak_Resolve_F cs sos = some (tab cs.length (W cs.length sos fun i => cs.getD i 0)) := by
  have := resolve_F sos hs (fun i => cs.getD i 0) cs.length hn
  rwa [← tab_self] at this

theorem awake14 : law14_awake_F = some true := by
  unfold law14_awake_F law14_awake_T
  refine Post.run (Post.bnd (resolve_list 1 (.inr rfl) [2, 8, 3] (by simp)) (Post.bnd (resolve_list 0 (.inl rfl) [3, 7, 3, 5] (by simp)) (Post.bnd (resolve_list 1 (.inr rfl) [5, 6] (by simp)) (Post.bnd (resolve_list 0 (.inl rfl) [19, 8] (by simp)) ?_))))
  exact ⟨true, by rfl, rfl⟩

theorem weakResolves_F (ns : List Int) (b : Bool) (hn : ns.length ≤ 2097152) (h8 : ∀ n ∈ ns, 0 ≤ n ∧ n ≤ 255) : law14_WeakResolves_F ns b = some true := by
  unfold law14_WeakResolves_F law14_WeakResolves_T
  have hs := side_01 b
  have hw : IntKind.i64.wrap (if b = true then (1 : Int) else 0) = if b = true then (1 : Int) else 0 := wrap64 (by omega) (by omega)
  refine Post.run (Post.bnd awake14 (Post.brF rfl (Post.bnd (classes_F ns hn h8) (Post.bnd (side_F b) (Post.bnd (resolve_F _ hs _ _ (by omega)) (Post.bnd (ints_F _ _ (by omega) (rg_mod ns).wide) ?_))))))
  rw [hw]
  exact Post.bnd (weak_F _ hs _ _ (by omega)) (Post.bnd (like_F _ _ (by omega) ((rg_mod ns).W hs).wide) (Post.pure rfl))

theorem weakResolves_all (x : Tys.I [.sl (.int .u8), .bool]) (h : WfAll [.sl (.int .u8), .bool] x) (hb : bulkAll [.sl (.int .u8), .bool] x ≤ 1048576) : law14_WeakResolves_F x.1 x.2.1 = some true := by
  simp only [bulkAll, bulk] at hb
  exact weakResolves_F _ _ (by omega) (fun n hn => wf_u8 (h.1.2 n hn))

/-! ### none of some classes is left -/
theorem W_none (n : Nat) (sos : Int) (hs : sos = 0 ∨ sos = 1) (g : Nat → Int) (k : Nat) : W n sos g k ≠ 2 ∧ W n sos g k ≠ 8 ∧ W n sos g k ≠ 4 ∧ W n sos g k ≠ 5 ∧ W n sos g k ≠ 7 := by
  have a1 : ∀ i, m1 sos g i ≠ 8 := by
    intro i
    have hb : ∀ b : Int, b ≠ 8 → blank b ≠ 8 := fun b hb => by unfold blank; split <;> omega
    induction i with
    | zero =>
      rw [m1_eq]
      split
      · exact hb _ (by show sos ≠ 8; omega)
      · assumption
    | succ i ih =>
      rw [m1_eq]
      split
      · exact hb _ ih
      · assumption
  have a2 : ∀ i, m2 sos (m1 sos g) i ≠ 8 := fun i => by have := a1 i; unfold m2; split <;> omega
  have a3 : ∀ i, m3 (m2 sos (m1 sos g)) i ≠ 8 := fun i => by have := a2 i; unfold m3; split <;> omega
  have a4 : ∀ i, m4 n (m3 (m2 sos (m1 sos g))) i ≠ 8 := by
    intro i
    induction i with
    | zero => exact a3 0
    | succ i ih =>
      unfold m4
      split
      · exact ih
      · exact a3 (i + 1)
  have a5 : ∀ i, m5 n sos (m4 n (m3 (m2 sos (m1 sos g)))) i ≠ 8 := fun i => by have := a4 i; unfold m5; split <;> omega
  have a6 : ∀ i, m6 (m5 n sos (m4 n (m3 (m2 sos (m1 sos g))))) i ≠ 8 ∧ m6 (m5 n sos (m4 n (m3 (m2 sos (m1 sos g))))) i ≠ 4 ∧ m6 (m5 n sos (m4 n (m3 (m2 sos (m1 sos g))))) i ≠ 5 ∧ m6 (m5 n sos (m4 n (m3 (m2 sos (m1 sos g))))) i ≠ 7 :=
    fun i => by have := a5 i; unfold m6; split <;> omega
  have b := no2 n sos (m2 sos (m1 sos g)) k
  have c := a6 k
  unfold W m7
  split <;> omega

theorem m4_at (n : Nat) (g : Nat → Int) (k : Nat) (h : g k ≠ 4 ∧ g k ≠ 7) : m4 n g k = g k := by
  rw [m4_eq (sos := 0) (.inl rfl)]
  exact if_neg fun hh => by have := hh.2.2; unfold Jn at this; omega
theorem W_keep (n : Nat) (sos : Int) (g : Nat → Int) (k : Nat) (h : g k = 0 ∨ g k = 1 ∨ 8 < g k) : W n sos g k = g k := by
  have a1 : m1 sos g k = g k := by rw [m1_eq, if_neg (by omega)]
  have a2 : m2 sos (m1 sos g) k = g k := by unfold m2; rw [if_neg (by omega), a1]
  have a3 : m3 (m2 sos (m1 sos g)) k = g k := by unfold m3; rw [if_neg (by omega), a2]
  have a4 : m4 n (m3 (m2 sos (m1 sos g))) k = g k := by rw [m4_at _ _ _ (by omega), a3]
  have a5 : m5 n sos (m4 n (m3 (m2 sos (m1 sos g)))) k = g k := by unfold m5; rw [if_neg (by omega), a4]
  have a6 : m6 (m5 n sos (m4 n (m3 (m2 sos (m1 sos g))))) k = g k := by unfold m6; rw [if_neg (by omega), a5]
  unfold W m7
  rw [if_neg (by omega), a6]
theorem W_al (n : Nat) (sos : Int) (g : Nat → Int) (k : Nat) (h : g k = 2) : W n sos g k = 1 := by
  have a1 : m1 sos g k = g k := by rw [m1_eq, if_neg (by omega)]
  have a2 : m2 sos (m1 sos g) k = g k := by unfold m2; rw [if_neg (by omega), a1]
  have a3 : m3 (m2 sos (m1 sos g)) k = 1 := by unfold m3; rw [if_pos (by omega)]
  have a4 : m4 n (m3 (m2 sos (m1 sos g))) k = 1 := by rw [m4_at _ _ _ (by omega), a3]
  have a5 : m5 n sos (m4 n (m3 (m2 sos (m1 sos g)))) k = 1 := by unfold m5; rw [if_neg (by omega), a4]
  have a6 : m6 (m5 n sos (m4 n (m3 (m2 sos (m1 sos g))))) k = 1 := by unfold m6; rw [if_neg (by omega), a5]
  unfold W m7
  rw [if_neg (by omega), a6]

theorem weakNone_F (ns : List Int) (b : Bool) (hn : ns.length ≤ 2097152) (h8 : ∀ n ∈ ns, 0 ≤ n ∧ n ≤ 255) : law14_WeakNone_F ns b = some true := by
  unfold law14_WeakNone_F law14_WeakNone_T
  have hs := side_01 b
  have hsd := side_F b
  generalize (if b = true then (1 : Int) else 0) = sos at hs hsd
  have hc := classes_F ns hn h8
  have hg := rg_mod ns
  generalize (fun i => (ns.getD i 0) % 23) = g at hc hg
  generalize ns.length = n at hn hc
  refine Post.run (Post.bnd awake14 (Post.brF rfl (Post.bnd hc (Post.bnd hsd (Post.bnd (resolve_F _ hs _ _ (by omega)) (Post.bnd hc ?_))))))
  rw [tab_len, tab_len]
  refine Post.brF (by simp) (Post.altL (b := ()) (count (L := fun s : List Int × List Int × List Int × Int => law14_WeakNone_L9 s.1 s.2.1 s.2.2.1 s.2.2.2) n (fun k => (tab n g, tab n (W n sos g), tab n g, (k : Int))) rfl (fun k hk => ?_) ?_) (Post.pure rfl))
  · dsimp only
    have a1 := W_none n sos hs g k
    have a2 : ¬ (g k = 0 ∨ g k = 1 ∨ 8 < g k) ∨ W n sos g k = g k := by
      by_cases h : g k = 0 ∨ g k = 1 ∨ 8 < g k
      · exact .inr (W_keep n sos g k h)
      · exact .inl h
    have a3 : g k ≠ 2 ∨ W n sos g k = 1 := by
      by_cases h : g k = 2
      · exact .inr (W_al n sos g k h)
      · exact .inl h
    have a4 := hg k
    unfold law14_WeakNone_L9
    rw [tab_len, wrap_succ (by omega)]
    generalize hG : tab n g = G
    generalize hW : tab n (W n sos g) = V
    have ig : ∀ {f : Int → Tr (Lap (List Int × List Int × List Int × Int) (Sum Unit Bool))} {Q}, Post (f (g k)) Q → Post (.bnd (idx G (k : Int)) f) Q := fun h => by rw [← hG]; exact ptab k rfl hk h
    have iw : ∀ {f : Int → Tr (Lap (List Int × List Int × List Int × Int) (Sum Unit Bool))} {Q}, Post (f (W n sos g k)) Q → Post (.bnd (idx V (k : Int)) f) Q := fun h => by rw [← hW]; exact ptab k rfl hk h
    generalize W n sos g k = w at *
    generalize g k = c at *
    repeat' (first | (first | refine Post.brT (by simp only [Bool.or_eq_true, Bool.and_eq_true, beq_iff_eq, bne_iff_ne, decide_eq_true_eq, ne_eq, Bool.not_eq_true', beq_eq_false_iff_ne, bne_eq_false_iff_eq, decide_eq_false_iff_not, Decidable.not_not, Bool.or_eq_false_iff, Bool.and_eq_false_iff, Bool.not_eq_false']; omega) ?_ | refine Post.brF (by simp only [Bool.or_eq_true, Bool.and_eq_true, beq_iff_eq, bne_iff_ne, decide_eq_true_eq, ne_eq, Bool.not_eq_true', beq_eq_false_iff_ne, bne_eq_false_iff_eq, decide_eq_false_iff_not, Decidable.not_not, Bool.or_eq_false_iff, Bool.and_eq_false_iff, Bool.not_eq_false']; omega) ?_) | refine ig ?_ | refine iw ?_ | (refine Post.br (fun hbr => ?_) (fun hbr => ?_) <;> (try simp only [Bool.or_eq_true, Bool.and_eq_true, beq_iff_eq, bne_iff_ne, decide_eq_true_eq, ne_eq, Bool.not_eq_true', beq_eq_false_iff_ne, bne_eq_false_iff_eq, decide_eq_false_iff_not, Decidable.not_not, Bool.or_eq_false_iff, Bool.and_eq_false_iff, Bool.not_eq_false'] at hbr)))
    all_goals first | exact Post.pure rfl | (exfalso; omega) | exact absurd trivial hbr
  · dsimp only
    unfold law14_WeakNone_L9
    rw [tab_len]
    (first | refine Post.brT (by simp only [Bool.or_eq_true, Bool.and_eq_true, beq_iff_eq, bne_iff_ne, decide_eq_true_eq, ne_eq, Bool.not_eq_true', beq_eq_false_iff_ne, bne_eq_false_iff_eq, decide_eq_false_iff_not, Decidable.not_not, Bool.or_eq_false_iff, Bool.and_eq_false_iff, Bool.not_eq_false']; omega) ?_ | refine Post.brF (by simp only [Bool.or_eq_true, Bool.and_eq_true, beq_iff_eq, bne_iff_ne, decide_eq_true_eq, ne_eq, Bool.not_eq_true', beq_eq_false_iff_ne, bne_eq_false_iff_eq, decide_eq_false_iff_not, Decidable.not_not, Bool.or_eq_false_iff, Bool.and_eq_false_iff, Bool.not_eq_false']; omega) ?_)
    exact Post.pure rfl

theorem weakNone_all (x : Tys.I [.sl (.int .u8), .bool]) (h : WfAll [.sl (.int .u8), .bool] x) (hb : bulkAll [.sl (.int .u8), .bool] x ≤ 1048576) : law14_WeakNone_F x.1 x.2.1 = some true := by
  simp only [bulkAll, bulk] at hb
  exact weakNone_F _ _ (by omega) (fun n hn => wf_u8 (h.1.2 n hn))

/-! ### what has been resolved stays -/
theorem W_fix (n : Nat) (sos : Int) (g : Nat → Int) (h : ∀ k, g k = 0 ∨ g k = 1 ∨ 8 < g k) : W n sos g = g := funext fun k => W_keep n sos g k (h k)
theorem W_few (n : Nat) (sos : Int) (hs : sos = 0 ∨ sos = 1) (g : Nat → Int) (hg : Rg g) (h : ∀ k, g k ≠ 3 ∧ g k ≠ 6) (k : Nat) : W n sos g k = 0 ∨ W n sos g k = 1 ∨ 8 < W n sos g k := by
  have a0 := W_none n sos hs g k
  have r0 := hg.W (n := n) hs k
  have a1 : ∀ i, m1 sos g i ≠ 3 ∧ m1 sos g i ≠ 6 := by
    intro i
    have hb : ∀ b : Int, b ≠ 3 ∧ b ≠ 6 → blank b ≠ 3 ∧ blank b ≠ 6 := fun b hb => by unfold blank; split <;> omega
    induction i with
    | zero =>
      have := h 0
      rw [m1_eq]
      split
      · exact hb _ (by show sos ≠ 3 ∧ sos ≠ 6; omega)
      · exact this
    | succ i ih =>
      have := h (i + 1)
      rw [m1_eq]
      split
      · exact hb _ ih
      · exact this
  have a2 : ∀ i, m2 sos (m1 sos g) i ≠ 3 ∧ m2 sos (m1 sos g) i ≠ 6 := fun i => by have := a1 i; unfold m2; rw [if_neg (by omega)]; exact this
  have a3 : ∀ i, m3 (m2 sos (m1 sos g)) i ≠ 3 ∧ m3 (m2 sos (m1 sos g)) i ≠ 6 := fun i => by have := a2 i; unfold m3; split <;> omega
  generalize hq : m3 (m2 sos (m1 sos g)) = q at *
  have a4 : ∀ i, m4 n q i = q i := by
    intro i
    rw [m4_eq hs]
    refine if_neg fun hh => ?_
    have h1 := hh.2.1
    have h2 := a3 (i + 1)
    have h3 := hh.2.2
    unfold Jn at h3
    omega
  have e4 : m4 n q = q := funext a4
  have a5 : m5 n sos q = q := by
    funext i
    refine if_neg fun hh => ?_
    have hl : ∀ j, l5 sos q j ≠ 3 := by
      intro j
      induction j with
      | zero => show sos ≠ 3; omega
      | succ j ih =>
        have := a3 j
        rw [l5_succ]
        split
        · exact ih
        · exact this.1
    have hr : ∀ d j, nx5 q d j ≠ 3 := by
      intro d
      induction d with
      | zero => intro j; simp [nx5]
      | succ d ih =>
        intro j
        have := a3 j
        unfold nx5
        split
        · exact ih _
        · exact this.1
    rcases hh.2 with h | h
    · exact hl i h
    · exact hr _ _ h
  have a6 : ∀ i, m6 q i ≠ 3 ∧ m6 q i ≠ 6 := fun i => by have := a3 i; unfold m6; split <;> omega
  have a7 : W n sos g = m6 q := by
    unfold W
    rw [hq, e4, a5]
    funext i
    have := a6 i
    exact if_neg fun hh => this.1 hh.1
  have a8 := a6 k
  rw [a7] at a0 r0 ⊢
  omega

theorem weakTwice_F (ns : List Int) (b : Bool) (hn : ns.length ≤ 2097152) (h8 : ∀ n ∈ ns, 0 ≤ n ∧ n ≤ 255) : law14_WeakTwice_F ns b = some true := by
  unfold law14_WeakTwice_F law14_WeakTwice_T
  have hs := side_01 b
  have hsd := side_F b
  generalize (if b = true then (1 : Int) else 0) = sos at hs hsd
  have hc := classes_F ns hn h8
  have hg := rg_mod ns
  generalize (fun i => (ns.getD i 0) % 23) = g at hc hg
  generalize ns.length = n at hn hc
  refine Post.run (Post.bnd awake14 (Post.brF rfl (Post.bnd hc ?_)))
  rw [tab_len]
  have hl := loop_ex (L := fun s : Bool × List Int × List Int × Int × Int => law14_WeakTwice_L5 s.1 s.2.1 s.2.2.1 s.2.2.2.1 s.2.2.2.2)
    (fun s => ∃ (k : Nat) (cs : List Int), s = (b, cs, tab n g, (n : Int), (k : Int)) ∧ k ≤ n ∧ cs.length ≤ k ∧ ∀ c ∈ cs, 0 ≤ c ∧ c ≤ 22 ∧ c ≠ 3 ∧ c ≠ 6) (fun s => n - s.2.2.2.2.toNat)
    (R := fun r => ∃ cs : List Int, r = (b, cs) ∧ cs.length ≤ n ∧ ∀ c ∈ cs, 0 ≤ c ∧ c ≤ 22 ∧ c ≠ 3 ∧ c ≠ 6) (s0 := (b, [], tab n g, (n : Int), 0)) (by
    rintro s ⟨k, cs, rfl, h1, h2, h3⟩
    dsimp only
    unfold law14_WeakTwice_L5
    by_cases hk : k < n
    · have r0 := hg k
      have snoc : g k ≠ 3 → g k ≠ 6 → ∀ c ∈ cs ++ [g k], 0 ≤ c ∧ c ≤ 22 ∧ c ≠ 3 ∧ c ≠ 6 := by
        intro e1 e2 c hc
        rcases List.mem_append.1 hc with hc | hc
        · exact h3 c hc
        · rw [List.mem_singleton] at hc; omega
      have hd : n - Int.toNat ((k + 1 : Nat) : Int) < n - Int.toNat (k : Int) := by rw [toNat_nat, toNat_nat]; omega
      (first | refine Post.brT (by simp only [Bool.or_eq_true, Bool.and_eq_true, beq_iff_eq, bne_iff_ne, decide_eq_true_eq, ne_eq, Bool.not_eq_true', beq_eq_false_iff_ne, bne_eq_false_iff_eq, decide_eq_false_iff_not, Decidable.not_not, Bool.or_eq_false_iff, Bool.and_eq_false_iff, Bool.not_eq_false']; omega) ?_ | refine Post.brF (by simp only [Bool.or_eq_true, Bool.and_eq_true, beq_iff_eq, bne_iff_ne, decide_eq_true_eq, ne_eq, Bool.not_eq_true', beq_eq_false_iff_ne, bne_eq_false_iff_eq, decide_eq_false_iff_not, Decidable.not_not, Bool.or_eq_false_iff, Bool.and_eq_false_iff, Bool.not_eq_false']; omega) ?_)
      (first | refine ptab _ rfl (by omega) ?_ | refine Post.bnd (idx_set_at (by omega) (by simp only [List.length_set, tab_len]; omega)) ?_)
      rw [wrap_succ (by omega)]
      by_cases e1 : g k = 6
      · (first | refine Post.brT (by simp only [Bool.or_eq_true, Bool.and_eq_true, beq_iff_eq, bne_iff_ne, decide_eq_true_eq, ne_eq, Bool.not_eq_true', beq_eq_false_iff_ne, bne_eq_false_iff_eq, decide_eq_false_iff_not, Decidable.not_not, Bool.or_eq_false_iff, Bool.and_eq_false_iff, Bool.not_eq_false']; omega) ?_ | refine Post.brF (by simp only [Bool.or_eq_true, Bool.and_eq_true, beq_iff_eq, bne_iff_ne, decide_eq_true_eq, ne_eq, Bool.not_eq_true', beq_eq_false_iff_ne, bne_eq_false_iff_eq, decide_eq_false_iff_not, Decidable.not_not, Bool.or_eq_false_iff, Bool.and_eq_false_iff, Bool.not_eq_false']; omega) ?_)
        exact Post.pure ⟨⟨k + 1, cs, rfl, by omega, by omega, h3⟩, hd⟩
      · (first | refine Post.brT (by simp only [Bool.or_eq_true, Bool.and_eq_true, beq_iff_eq, bne_iff_ne, decide_eq_true_eq, ne_eq, Bool.not_eq_true', beq_eq_false_iff_ne, bne_eq_false_iff_eq, decide_eq_false_iff_not, Decidable.not_not, Bool.or_eq_false_iff, Bool.and_eq_false_iff, Bool.not_eq_false']; omega) ?_ | refine Post.brF (by simp only [Bool.or_eq_true, Bool.and_eq_true, beq_iff_eq, bne_iff_ne, decide_eq_true_eq, ne_eq, Bool.not_eq_true', beq_eq_false_iff_ne, bne_eq_false_iff_eq, decide_eq_false_iff_not, Decidable.not_not, Bool.or_eq_false_iff, Bool.and_eq_false_iff, Bool.not_eq_false']; omega) ?_)
        by_cases e2 : g k = 3
        · (first | refine Post.brT (by simp only [Bool.or_eq_true, Bool.and_eq_true, beq_iff_eq, bne_iff_ne, decide_eq_true_eq, ne_eq, Bool.not_eq_true', beq_eq_false_iff_ne, bne_eq_false_iff_eq, decide_eq_false_iff_not, Decidable.not_not, Bool.or_eq_false_iff, Bool.and_eq_false_iff, Bool.not_eq_false']; omega) ?_ | refine Post.brF (by simp only [Bool.or_eq_true, Bool.and_eq_true, beq_iff_eq, bne_iff_ne, decide_eq_true_eq, ne_eq, Bool.not_eq_true', beq_eq_false_iff_ne, bne_eq_false_iff_eq, decide_eq_false_iff_not, Decidable.not_not, Bool.or_eq_false_iff, Bool.and_eq_false_iff, Bool.not_eq_false']; omega) ?_)
          exact Post.pure ⟨⟨k + 1, cs, rfl, by omega, by omega, h3⟩, hd⟩
        · (first | refine Post.brT (by simp only [Bool.or_eq_true, Bool.and_eq_true, beq_iff_eq, bne_iff_ne, decide_eq_true_eq, ne_eq, Bool.not_eq_true', beq_eq_false_iff_ne, bne_eq_false_iff_eq, decide_eq_false_iff_not, Decidable.not_not, Bool.or_eq_false_iff, Bool.and_eq_false_iff, Bool.not_eq_false']; omega) ?_ | refine Post.brF (by simp only [Bool.or_eq_true, Bool.and_eq_true, beq_iff_eq, bne_iff_ne, decide_eq_true_eq, ne_eq, Bool.not_eq_true', beq_eq_false_iff_ne, bne_eq_false_iff_eq, decide_eq_false_iff_not, Decidable.not_not, Bool.or_eq_false_iff, Bool.and_eq_false_iff, Bool.not_eq_false']; omega) ?_)
          exact Post.bnd (app_eq (by simp; omega)) (Post.pure ⟨⟨k + 1, _, rfl, by omega, by simp; omega, snoc e2 e1⟩, hd⟩)
    · (first | refine Post.brT (by simp only [Bool.or_eq_true, Bool.and_eq_true, beq_iff_eq, bne_iff_ne, decide_eq_true_eq, ne_eq, Bool.not_eq_true', beq_eq_false_iff_ne, bne_eq_false_iff_eq, decide_eq_false_iff_not, Decidable.not_not, Bool.or_eq_false_iff, Bool.and_eq_false_iff, Bool.not_eq_false']; omega) ?_ | refine Post.brF (by simp only [Bool.or_eq_true, Bool.and_eq_true, beq_iff_eq, bne_iff_ne, decide_eq_true_eq, ne_eq, Bool.not_eq_true', beq_eq_false_iff_ne, bne_eq_false_iff_eq, decide_eq_false_iff_not, Decidable.not_not, Bool.or_eq_false_iff, Bool.and_eq_false_iff, Bool.not_eq_false']; omega) ?_)
      exact Post.pure ⟨cs, rfl, by omega, h3⟩) ⟨0, [], rfl, by omega, by simp, by simp⟩
  refine Post.call hl (fun r hr => ?_)
  obtain ⟨cs, rfl, c1, c2⟩ := hr
  dsimp only
  have hq : ∀ k, (0 ≤ cs.getD k 0 ∧ cs.getD k 0 ≤ 22) ∧ cs.getD k 0 ≠ 3 ∧ cs.getD k 0 ≠ 6 := by
    intro k
    by_cases hk : k < cs.length
    · have := c2 (cs.getD k 0) (by simp [List.getD, hk])
      omega
    · rw [getD_len (by omega)]; omega
  have hqr : Rg fun i => cs.getD i 0 := fun i => (hq i).1
  have f := W_few cs.length sos hs (fun i => cs.getD i 0) hqr (fun i => (hq i).2)
  have rw' := hqr.W (n := cs.length) hs
  refine Post.bnd hsd (Post.bnd (resolve_list sos hs cs (by omega)) (Post.bnd hsd (Post.bnd (resolve_F sos hs _ _ (by omega)) ?_)))
  rw [W_fix _ _ _ f]
  exact Post.bnd (ints_F _ _ (by omega) rw'.wide) (Post.bnd (like_F _ _ (by omega) rw'.wide) (Post.pure rfl))

theorem weakTwice_all (x : Tys.I [.sl (.int .u8), .bool]) (h : WfAll [.sl (.int .u8), .bool] x) (hb : bulkAll [.sl (.int .u8), .bool] x ≤ 1048576) : law14_WeakTwice_F x.1 x.2.1 = some true := by
  simp only [bulkAll, bulk] at hb
  exact weakTwice_F _ _ (by omega) (fun n hn => wf_u8 (h.1.2 n hn))

/-! ### behind an R -/
structure Cutp (p : Nat) (f G H : Nat → Int) : Prop where
  front : ∀ i, i ≤ p → f i = G i
  one : G p = 1
  behind : ∀ j, H j = G (p + 1 + j)
theorem Cutp.m1 {p : Nat} {f G H : Nat → Int} (sos : Int) (h : Cutp p f G H) : Cutp p (m1 sos f) (m1 sos G) (m1 1 H) := by
  have o : Go.Proofs.Ytgpmfpigldkgfaa.m1 sos G p = 1 := by rw [m1_eq, if_neg (by have := h.one; omega)]; exact h.one
  refine ⟨fun i => ?_, o, fun j => ?_⟩
  · induction i with
    | zero => intro hi; rw [m1_eq, m1_eq, h.front 0 hi]; rfl
    | succ i ih => intro hi; rw [m1_eq, m1_eq, h.front _ hi, show prev sos (Go.Proofs.Ytgpmfpigldkgfaa.m1 sos f) (i + 1) = Go.Proofs.Ytgpmfpigldkgfaa.m1 sos f i from rfl, ih (by omega)]; rfl
  · induction j with
    | zero => rw [m1_eq, m1_eq, h.behind 0, show prev sos (Go.Proofs.Ytgpmfpigldkgfaa.m1 sos G) (p + 1 + 0) = Go.Proofs.Ytgpmfpigldkgfaa.m1 sos G p from rfl, o]; rfl
    | succ j ih => rw [m1_eq, m1_eq, h.behind (j + 1), show prev sos (Go.Proofs.Ytgpmfpigldkgfaa.m1 sos G) (p + 1 + (j + 1)) = Go.Proofs.Ytgpmfpigldkgfaa.m1 sos G (p + 1 + j) from rfl, ← ih]; rfl
theorem Cutp.s2 {p : Nat} {f G H : Nat → Int} (sos : Int) (h : Cutp p f G H) : (∀ i, i ≤ p → s2 sos f i = s2 sos G i) ∧ ∀ j, s2 1 H j = s2 sos G (p + 1 + j) := by
  refine ⟨fun i => ?_, fun j => ?_⟩
  · induction i with
    | zero => intro _; rfl
    | succ i ih => intro hi; rw [s2_succ, s2_succ, h.front i (by omega), ih (by omega)]
  · induction j with
    | zero => rw [show p + 1 + 0 = p + 1 from rfl, s2_succ, h.one]; rfl
    | succ j ih => rw [show p + 1 + (j + 1) = (p + 1 + j) + 1 from rfl, s2_succ, s2_succ, h.behind j, ih]
theorem Cutp.m2 {p : Nat} {f G H : Nat → Int} (sos : Int) (h : Cutp p f G H) : Cutp p (m2 sos f) (m2 sos G) (m2 1 H) := by
  have k := h.s2 sos
  refine ⟨fun i hi => ?_, ?_, fun j => ?_⟩
  · unfold Go.Proofs.Ytgpmfpigldkgfaa.m2; rw [h.front i hi, k.1 i hi]
  · unfold Go.Proofs.Ytgpmfpigldkgfaa.m2; rw [if_neg (by have := h.one; omega)]; exact h.one
  · unfold Go.Proofs.Ytgpmfpigldkgfaa.m2; rw [h.behind j, k.2 j]
theorem Cutp.m3 {p : Nat} {f G H : Nat → Int} (h : Cutp p f G H) : Cutp p (m3 f) (m3 G) (m3 H) := by
  refine ⟨fun i hi => ?_, ?_, fun j => ?_⟩
  · unfold Go.Proofs.Ytgpmfpigldkgfaa.m3; rw [h.front i hi]
  · unfold Go.Proofs.Ytgpmfpigldkgfaa.m3; rw [if_neg (by have := h.one; omega)]; exact h.one
  · unfold Go.Proofs.Ytgpmfpigldkgfaa.m3; rw [h.behind j]
theorem Cutp.m4 {p : Nat} {f G H : Nat → Int} (m : Nat) (h : Cutp p f G H) : Cutp p (m4 (p + 1) f) (m4 (p + 1 + m) G) (m4 m H) := by
  have one := h.one
  have o : ∀ n, Go.Proofs.Ytgpmfpigldkgfaa.m4 n G p = 1 := fun n => by rw [m4_at _ _ _ (by omega)]; exact one
  refine ⟨fun i => ?_, o _, fun j => ?_⟩
  · induction i with
    | zero => intro hi; exact h.front 0 hi
    | succ i ih =>
      intro hi
      by_cases e : i + 1 = p
      · rw [m4_at _ _ _ (by rw [h.front _ hi, e]; omega), m4_at _ _ _ (by rw [e]; omega), h.front _ hi]
      · unfold Go.Proofs.Ytgpmfpigldkgfaa.m4
        rw [h.front (i + 1) hi, h.front (i + 2) (by omega), ih (by omega)]
        by_cases c : G (i + 2) = Go.Proofs.Ytgpmfpigldkgfaa.m4 (p + 1 + m) G i ∧ Jn (G (i + 1)) (Go.Proofs.Ytgpmfpigldkgfaa.m4 (p + 1 + m) G i)
        · rw [if_pos ⟨by omega, c⟩, if_pos ⟨by omega, c⟩]
        · rw [if_neg (fun h => c h.2), if_neg (fun h => c h.2)]
  · induction j with
    | zero =>
      have : Go.Proofs.Ytgpmfpigldkgfaa.m4 (p + 1 + m) G (p + 1) = G (p + 1) := by
        unfold Go.Proofs.Ytgpmfpigldkgfaa.m4
        rw [o]
        exact if_neg fun hh => by have := hh.2.2; unfold Jn at this; omega
      exact (h.behind 0).trans this.symm
    | succ j ih =>
      rw [show p + 1 + (j + 1) = (p + 1 + j) + 1 from rfl]
      unfold Go.Proofs.Ytgpmfpigldkgfaa.m4
      rw [ih, h.behind (j + 1), h.behind (j + 2), show p + 1 + j + 1 = p + 1 + (j + 1) from rfl, show p + 1 + j + 2 = p + 1 + (j + 2) from rfl]
      by_cases c : G (p + 1 + (j + 2)) = Go.Proofs.Ytgpmfpigldkgfaa.m4 (p + 1 + m) G (p + 1 + j) ∧ Jn (G (p + 1 + (j + 1))) (Go.Proofs.Ytgpmfpigldkgfaa.m4 (p + 1 + m) G (p + 1 + j))
      · by_cases d : j + 2 < m
        · rw [if_pos ⟨d, c⟩, if_pos ⟨by omega, c⟩]
        · rw [if_neg (fun h => d h.1), if_neg (fun h => d (by omega))]
      · rw [if_neg (fun h => c h.2), if_neg (fun h => c h.2)]
theorem Cutp.l5 {p : Nat} {f G H : Nat → Int} (sos : Int) (h : Cutp p f G H) : (∀ i, i ≤ p → l5 sos f i = l5 sos G i) ∧ ∀ j, l5 1 H j = l5 sos G (p + 1 + j) := by
  refine ⟨fun i => ?_, fun j => ?_⟩
  · induction i with
    | zero => intro _; rfl
    | succ i ih => intro hi; rw [l5_succ, l5_succ, h.front i (by omega), ih (by omega)]
  · induction j with
    | zero => rw [show p + 1 + 0 = p + 1 from rfl, l5_succ, h.one]; rfl
    | succ j ih => rw [show p + 1 + (j + 1) = (p + 1 + j) + 1 from rfl, l5_succ, l5_succ, h.behind j, ih]
theorem Cutp.r5 {p : Nat} {f G H : Nat → Int} (m : Nat) (h : Cutp p f G H) : (∀ i, i ≤ p → r5 (p + 1) f i = r5 (p + 1 + m) G i) ∧ ∀ j, r5 m H j = r5 (p + 1 + m) G (p + 1 + j) := by
  refine ⟨fun i => ?_, fun j => ?_⟩
  · have key : ∀ d i, i + d = p → Go.Proofs.Ytgpmfpigldkgfaa.r5 (p + 1) f i = Go.Proofs.Ytgpmfpigldkgfaa.r5 (p + 1 + m) G i := by
      intro d
      induction d with
      | zero =>
        intro i hi
        have e : i = p := by omega
        rw [r5_eq (p + 1) f i, r5_eq (p + 1 + m) G i, if_pos (c := i < p + 1) (by omega), if_pos (c := i < p + 1 + m) (by omega), h.front i (by omega), e, if_neg (by have := h.one; omega), if_neg (by have := h.one; omega)]
      | succ d ih =>
        intro i hi
        rw [r5_eq (p + 1) f i, r5_eq (p + 1 + m) G i, if_pos (c := i < p + 1) (by omega), if_pos (c := i < p + 1 + m) (by omega), h.front i (by omega), ih (i + 1) (by omega)]
    intro hi
    exact key (p - i) i (by omega)
  · have key : ∀ d j, nx5 H d j = nx5 G d (p + 1 + j) := by
      intro d
      induction d with
      | zero => intro j; rfl
      | succ d ih =>
        intro j
        unfold nx5
        rw [h.behind j, ih (j + 1)]; rfl
    unfold Go.Proofs.Ytgpmfpigldkgfaa.r5
    rw [key, show p + 1 + m - (p + 1 + j) = m - j by omega]
theorem Cutp.m5 {p : Nat} {f G H : Nat → Int} (m : Nat) (sos : Int) (h : Cutp p f G H) : Cutp p (m5 (p + 1) sos f) (m5 (p + 1 + m) sos G) (m5 m 1 H) := by
  have k := h.l5 sos
  have q := h.r5 m
  refine ⟨fun i hi => ?_, ?_, fun j => ?_⟩
  · unfold Go.Proofs.Ytgpmfpigldkgfaa.m5; rw [h.front i hi, k.1 i hi, q.1 i hi]
  · unfold Go.Proofs.Ytgpmfpigldkgfaa.m5; rw [if_neg (by have := h.one; omega)]; exact h.one
  · unfold Go.Proofs.Ytgpmfpigldkgfaa.m5; rw [h.behind j, k.2 j, q.2 j]
theorem Cutp.m6 {p : Nat} {f G H : Nat → Int} (h : Cutp p f G H) : Cutp p (m6 f) (m6 G) (m6 H) := by
  refine ⟨fun i hi => ?_, ?_, fun j => ?_⟩
  · unfold Go.Proofs.Ytgpmfpigldkgfaa.m6; rw [h.front i hi]
  · unfold Go.Proofs.Ytgpmfpigldkgfaa.m6; rw [if_neg (by have := h.one; omega)]; exact h.one
  · unfold Go.Proofs.Ytgpmfpigldkgfaa.m6; rw [h.behind j]
theorem Cutp.s7 {p : Nat} {f G H : Nat → Int} (sos : Int) (h : Cutp p f G H) : (∀ i, i ≤ p → s7 sos f i = s7 sos G i) ∧ ∀ j, s7 1 H j = s7 sos G (p + 1 + j) := by
  refine ⟨fun i => ?_, fun j => ?_⟩
  · induction i with
    | zero => intro _; rfl
    | succ i ih => intro hi; rw [s7_succ, s7_succ, h.front i (by omega), ih (by omega)]
  · induction j with
    | zero => rw [show p + 1 + 0 = p + 1 from rfl, s7_succ, h.one]; rfl
    | succ j ih => rw [show p + 1 + (j + 1) = (p + 1 + j) + 1 from rfl, s7_succ, s7_succ, h.behind j, ih]
theorem Cutp.m7 {p : Nat} {f G H : Nat → Int} (sos : Int) (h : Cutp p f G H) : Cutp p (m7 sos f) (m7 sos G) (m7 1 H) := by
  have k := h.s7 sos
  refine ⟨fun i hi => ?_, ?_, fun j => ?_⟩
  · unfold Go.Proofs.Ytgpmfpigldkgfaa.m7; rw [h.front i hi, k.1 i hi]
  · unfold Go.Proofs.Ytgpmfpigldkgfaa.m7; rw [if_neg (by have := h.one; omega)]; exact h.one
  · unfold Go.Proofs.Ytgpmfpigldkgfaa.m7; rw [h.behind j, k.2 j]
theorem Cutp.W {p : Nat} {f G H : Nat → Int} (m : Nat) (sos : Int) (h : Cutp p f G H) : Cutp p (W (p + 1) sos f) (W (p + 1 + m) sos G) (W m 1 H) := ((((((h.m1 sos).m2 sos).m3).m4 m).m5 m sos).m6).m7 sos

theorem weakParts_F (ns ms : List Int) (b : Bool) (hn : ns.length ≤ 1048576) (hm : ms.length ≤ 1048576) (h8 : ∀ n ∈ ns, 0 ≤ n ∧ n ≤ 255) (k8 : ∀ n ∈ ms, 0 ≤ n ∧ n ≤ 255) : law14_WeakParts_F ns ms b = some true := by
  unfold law14_WeakParts_F law14_WeakParts_T
  have hs := side_01 b
  have hsd := side_F b
  generalize (if b = true then (1 : Int) else 0) = sos at hs hsd
  have hc := classes_F ns (by omega) h8
  generalize (fun i => (ns.getD i 0) % 23) = g at hc
  generalize ns.length = n at hn hc
  have kc := classes_F ms (by omega) k8
  generalize (fun i => (ms.getD i 0) % 23) = H at kc
  generalize ms.length = m at hm kc
  refine Post.run (Post.bnd awake14 (Post.brF rfl (Post.bnd hc (Post.bnd kc (Post.bnd (app_eq (by rw [tab_len]; simp; omega)) ?_)))))
  refine Post.bnd (app_eq (by simp [tab_len]; omega)) (Post.bnd (app_eq (by simp [tab_len]; omega)) (Post.bnd (app_eq (by simp [tab_len]; omega)) (Post.bnd hsd ?_)))
  rw [List.nil_append, List.nil_append]
  have l1 : (tab n g ++ [1]).length = n + 1 := by simp [tab_len]
  have l2 : (tab n g ++ [1] ++ tab m H).length = n + 1 + m := by simp [tab_len]; omega
  have c0 : Cutp n (fun i => (tab n g ++ [1]).getD i 0) (fun i => (tab n g ++ [1] ++ tab m H).getD i 0) (fun j => (tab m H).getD j 0) := by
    refine ⟨fun i hi => ?_, ?_, fun j => ?_⟩
    · simp only [List.getD]
      rw [List.getElem?_append_left (l₁ := tab n g ++ [1]) (by omega)]
    · simp [List.getD, tab_len]
    · simp only [List.getD]
      rw [List.getElem?_append_right (l₁ := tab n g ++ [1]) (by omega), l1, show n + 1 + j - (n + 1) = j by omega]
  have c1 := c0.W m sos
  have hy := resolve_list 1 (.inr rfl) (tab m H) (by rw [tab_len]; omega)
  rw [tab_len] at hy
  refine Post.bnd (resolve_list sos hs _ (by omega)) (Post.bnd hy (Post.bnd hsd (Post.bnd (resolve_list sos hs _ (by omega)) ?_)))
  rw [l1, l2]
  simp only [tab_len]
  generalize W (n + 1) sos (fun i => (tab n g ++ [1]).getD i 0) = x at c1
  generalize W (n + 1 + m) sos (fun i => (tab n g ++ [1] ++ tab m H).getD i 0) = z at c1
  generalize W m 1 (fun j => (tab m H).getD j 0) = y at c1
  rw [wrap_succ (by omega)]
  refine Post.brF (by simp) (Post.brF (by simp) (Post.brF (by simp) (Post.altL (b := ()) (count (L := fun s : List Int × List Int × List Int × Int × Int => law14_WeakParts_L10 s.1 s.2.1 s.2.2.1 s.2.2.2.1 s.2.2.2.2) (n + 1 + m) (fun k => (tab (n + 1) x, tab m y, tab (n + 1 + m) z, ((n + 1 + m : Nat) : Int), (k : Int))) rfl (fun k hk => ?_) ?_) (Post.pure rfl))))
  · dsimp only
    unfold law14_WeakParts_L10
    rw [tab_len, wrap_succ (by omega)]
    (first | refine Post.brT (by simp only [Bool.or_eq_true, Bool.and_eq_true, beq_iff_eq, bne_iff_ne, decide_eq_true_eq, ne_eq, Bool.not_eq_true', beq_eq_false_iff_ne, bne_eq_false_iff_eq, decide_eq_false_iff_not, Decidable.not_not, Bool.or_eq_false_iff, Bool.and_eq_false_iff, Bool.not_eq_false']; omega) ?_ | refine Post.brF (by simp only [Bool.or_eq_true, Bool.and_eq_true, beq_iff_eq, bne_iff_ne, decide_eq_true_eq, ne_eq, Bool.not_eq_true', beq_eq_false_iff_ne, bne_eq_false_iff_eq, decide_eq_false_iff_not, Decidable.not_not, Bool.or_eq_false_iff, Bool.and_eq_false_iff, Bool.not_eq_false']; omega) ?_)
    (first | refine ptab _ rfl (by omega) ?_ | refine Post.bnd (idx_set_at (by omega) (by simp only [List.length_set, tab_len]; omega)) ?_)
    by_cases e : k < n + 1
    · have := c1.front k (by omega)
      (first | refine Post.brT (by simp only [Bool.or_eq_true, Bool.and_eq_true, beq_iff_eq, bne_iff_ne, decide_eq_true_eq, ne_eq, Bool.not_eq_true', beq_eq_false_iff_ne, bne_eq_false_iff_eq, decide_eq_false_iff_not, Decidable.not_not, Bool.or_eq_false_iff, Bool.and_eq_false_iff, Bool.not_eq_false']; omega) ?_ | refine Post.brF (by simp only [Bool.or_eq_true, Bool.and_eq_true, beq_iff_eq, bne_iff_ne, decide_eq_true_eq, ne_eq, Bool.not_eq_true', beq_eq_false_iff_ne, bne_eq_false_iff_eq, decide_eq_false_iff_not, Decidable.not_not, Bool.or_eq_false_iff, Bool.and_eq_false_iff, Bool.not_eq_false']; omega) ?_)
      (first | refine ptab _ rfl (by omega) ?_ | refine Post.bnd (idx_set_at (by omega) (by simp only [List.length_set, tab_len]; omega)) ?_)
      (first | refine Post.brT (by simp only [Bool.or_eq_true, Bool.and_eq_true, beq_iff_eq, bne_iff_ne, decide_eq_true_eq, ne_eq, Bool.not_eq_true', beq_eq_false_iff_ne, bne_eq_false_iff_eq, decide_eq_false_iff_not, Decidable.not_not, Bool.or_eq_false_iff, Bool.and_eq_false_iff, Bool.not_eq_false']; omega) ?_ | refine Post.brF (by simp only [Bool.or_eq_true, Bool.and_eq_true, beq_iff_eq, bne_iff_ne, decide_eq_true_eq, ne_eq, Bool.not_eq_true', beq_eq_false_iff_ne, bne_eq_false_iff_eq, decide_eq_false_iff_not, Decidable.not_not, Bool.or_eq_false_iff, Bool.and_eq_false_iff, Bool.not_eq_false']; omega) ?_)
      (first | refine Post.brT (by simp only [Bool.or_eq_true, Bool.and_eq_true, beq_iff_eq, bne_iff_ne, decide_eq_true_eq, ne_eq, Bool.not_eq_true', beq_eq_false_iff_ne, bne_eq_false_iff_eq, decide_eq_false_iff_not, Decidable.not_not, Bool.or_eq_false_iff, Bool.and_eq_false_iff, Bool.not_eq_false']; omega) ?_ | refine Post.brF (by simp only [Bool.or_eq_true, Bool.and_eq_true, beq_iff_eq, bne_iff_ne, decide_eq_true_eq, ne_eq, Bool.not_eq_true', beq_eq_false_iff_ne, bne_eq_false_iff_eq, decide_eq_false_iff_not, Decidable.not_not, Bool.or_eq_false_iff, Bool.and_eq_false_iff, Bool.not_eq_false']; omega) ?_)
      exact Post.pure rfl
    · have := c1.behind (k - (n + 1))
      rw [show n + 1 + (k - (n + 1)) = k by omega] at this
      (first | refine Post.brT (by simp only [Bool.or_eq_true, Bool.and_eq_true, beq_iff_eq, bne_iff_ne, decide_eq_true_eq, ne_eq, Bool.not_eq_true', beq_eq_false_iff_ne, bne_eq_false_iff_eq, decide_eq_false_iff_not, Decidable.not_not, Bool.or_eq_false_iff, Bool.and_eq_false_iff, Bool.not_eq_false']; omega) ?_ | refine Post.brF (by simp only [Bool.or_eq_true, Bool.and_eq_true, beq_iff_eq, bne_iff_ne, decide_eq_true_eq, ne_eq, Bool.not_eq_true', beq_eq_false_iff_ne, bne_eq_false_iff_eq, decide_eq_false_iff_not, Decidable.not_not, Bool.or_eq_false_iff, Bool.and_eq_false_iff, Bool.not_eq_false']; omega) ?_)
      (first | refine Post.brT (by simp only [Bool.or_eq_true, Bool.and_eq_true, beq_iff_eq, bne_iff_ne, decide_eq_true_eq, ne_eq, Bool.not_eq_true', beq_eq_false_iff_ne, bne_eq_false_iff_eq, decide_eq_false_iff_not, Decidable.not_not, Bool.or_eq_false_iff, Bool.and_eq_false_iff, Bool.not_eq_false']; omega) ?_ | refine Post.brF (by simp only [Bool.or_eq_true, Bool.and_eq_true, beq_iff_eq, bne_iff_ne, decide_eq_true_eq, ne_eq, Bool.not_eq_true', beq_eq_false_iff_ne, bne_eq_false_iff_eq, decide_eq_false_iff_not, Decidable.not_not, Bool.or_eq_false_iff, Bool.and_eq_false_iff, Bool.not_eq_false']; omega) ?_)
      refine ptab (k - (n + 1)) (by rw [wrap64 (by omega) (by omega)]; omega) (by omega) ?_
      (first | refine Post.brT (by simp only [Bool.or_eq_true, Bool.and_eq_true, beq_iff_eq, bne_iff_ne, decide_eq_true_eq, ne_eq, Bool.not_eq_true', beq_eq_false_iff_ne, bne_eq_false_iff_eq, decide_eq_false_iff_not, Decidable.not_not, Bool.or_eq_false_iff, Bool.and_eq_false_iff, Bool.not_eq_false']; omega) ?_ | refine Post.brF (by simp only [Bool.or_eq_true, Bool.and_eq_true, beq_iff_eq, bne_iff_ne, decide_eq_true_eq, ne_eq, Bool.not_eq_true', beq_eq_false_iff_ne, bne_eq_false_iff_eq, decide_eq_false_iff_not, Decidable.not_not, Bool.or_eq_false_iff, Bool.and_eq_false_iff, Bool.not_eq_false']; omega) ?_)
      exact Post.pure rfl
  · dsimp only
    unfold law14_WeakParts_L10
    (first | refine Post.brT (by simp only [Bool.or_eq_true, Bool.and_eq_true, beq_iff_eq, bne_iff_ne, decide_eq_true_eq, ne_eq, Bool.not_eq_true', beq_eq_false_iff_ne, bne_eq_false_iff_eq, decide_eq_false_iff_not, Decidable.not_not, Bool.or_eq_false_iff, Bool.and_eq_false_iff, Bool.not_eq_false']; omega) ?_ | refine Post.brF (by simp only [Bool.or_eq_true, Bool.and_eq_true, beq_iff_eq, bne_iff_ne, decide_eq_true_eq, ne_eq, Bool.not_eq_true', beq_eq_false_iff_ne, bne_eq_false_iff_eq, decide_eq_false_iff_not, Decidable.not_not, Bool.or_eq_false_iff, Bool.and_eq_false_iff, Bool.not_eq_false']; omega) ?_)
    exact Post.pure rfl

theorem weakParts_all (x : Tys.I [.sl (.int .u8), .sl (.int .u8), .bool]) (h : WfAll [.sl (.int .u8), .sl (.int .u8), .bool] x) (hb : bulkAll [.sl (.int .u8), .sl (.int .u8), .bool] x ≤ 1048576) : law14_WeakParts_F x.1 x.2.1 x.2.2.1 = some true := by
  simp only [bulkAll, bulk] at hb
  exact weakParts_F _ _ _ (by omega) (by omega) (fun n hn => wf_u8 (h.1.2 n hn)) (fun n hn => wf_u8 (h.2.1.2 n hn))

end Go.Proofs.Ytgpmfpigldkgfaa
