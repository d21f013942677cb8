/-
  A paragraph's level is its direction's, or what its first strong class tells.
-/
import Derived.Test.YtjglcaocbepmhaaDoorSh
import Derived.Test.YtjglcaocbepmhaaDoorEvMath
namespace Go.Proofs.YtjglcaocbepmhaaDoor
set_option linter.all false

def iso (c : Int) : Bool := c == 19 || c == 20 || c == 21
theorem isolate_F (c : Int) : bidic_Isolate_F c = some (iso c) := by
  unfold bidic_Isolate_F bidic_Isolate_T iso
  rw [Tr.run_br, Tr.run_br]
  by_cases h1 : c = 19
  · simp [h1, Tr.run_pure]
  · by_cases h2 : c = 20
    · simp [h2, Tr.run_pure]
    · simp [h1, h2, Tr.run_pure]
def strong (c : Int) : Bool := c == 0 || c == 1 || c == 2
theorem strong_F (c : Int) : bidic_Strong_F c = some (strong c) := by
  unfold bidic_Strong_F bidic_Strong_T strong
  rw [Tr.run_br, Tr.run_br]
  by_cases h1 : c = 0
  · simp [h1, Tr.run_pure]
  · by_cases h2 : c = 1
    · simp [h2, Tr.run_pure]
    · simp [h1, h2, Tr.run_pure]

/-- what the first strong class tells, from a depth on -/
def first (inside : Bool) (other : Int) : List Int → Nat → Int
  | [], _ => other
  | c :: r, d => if iso c then first inside other r (d + 1) else if c = 22 ∧ 0 < d then first inside other r (d - 1) else if c = 22 ∧ inside = true then other else
      if strong c = true ∧ d = 0 then (if c = 0 then 0 else 1) else first inside other r d

theorem first_cons (inside : Bool) (other c : Int) (r : List Int) (d : Nat) : first inside other (c :: r) d = if iso c then first inside other r (d + 1) else if c = 22 ∧ 0 < d then first inside other r (d - 1) else if c = 22 ∧ inside = true then other else
      if strong c = true ∧ d = 0 then (if c = 0 then 0 else 1) else first inside other r d := rfl
theorem drop_cons {l : List Int} {k : Nat} (h : k < l.length) : l.drop k = l.getD k 0 :: l.drop (k + 1) := by
  rw [List.drop_eq_getElem_cons h]
  simp [List.getD, h]

theorem base_strong (c : Int) : base_strong_F c = some (if c = 0 then 0 else 1) := by
  unfold base_strong_F base_strong_T
  rw [Tr.run_br]
  by_cases h : c = 0
  · simp [h, Tr.run_pure]
  · simp [h, Tr.run_pure]

theorem first_F (cs : List Int) (inside : Bool) (other : Int) (hn : cs.length ≤ 4194304) : base_First_F cs inside other = some (first inside other cs 0) := by
  unfold base_First_F base_First_T
  refine Exists.elim (loopW_rule (f := fun s : Bool × Int × Int × List Int × Int × Int => (base_First_L3 s.1 s.2.1 s.2.2.1 s.2.2.2.1 s.2.2.2.2.1 s.2.2.2.2.2).run)
    (fun s => ∃ k d : Nat, k ≤ cs.length ∧ d ≤ k ∧ s = (inside, other, (d : Int), cs, (cs.length : Int), (k : Int)) ∧ first inside other cs 0 = first inside other (cs.drop k) d)
    (fun s => cs.length - s.2.2.2.2.2.toNat)
    (fun r => r = .inl (first inside other cs 0) ∨ r = .inr (first inside other cs 0)) ?_ (inside, other, 0, cs, (cs.length : Int), 0) ⟨0, 0, by omega, by omega, rfl, rfl⟩) (fun r hr => ?_)
  · rintro s ⟨k, d, hk, hd, rfl, hf⟩
    dsimp only
    unfold base_First_L3
    rw [Tr.run_br]
    by_cases e : k = cs.length
    · right
      subst e
      rw [if_neg (by simp), Tr.run_pure]
      refine ⟨_, rfl, .inl ?_⟩
      rw [hf]
      simp [first]
    · have hk' : k < cs.length := by omega
      rw [drop_cons hk'] at hf
      generalize hc : cs.getD k 0 = c at hf
      have nx : ∀ d' : Nat, d' ≤ k + 1 → first inside other cs 0 = first inside other (cs.drop (k + 1)) d' → ∃ s', (Tr.pure (Lap.next (inside, other, (d' : Int), cs, (cs.length : Int), (k : Int) + 1)) : Tr (Lap (Bool × Int × Int × List Int × Int × Int) (Sum Int Int))).run = some (.next s') ∧
          (∃ k d : Nat, k ≤ cs.length ∧ d ≤ k ∧ s' = (inside, other, (d : Int), cs, (cs.length : Int), (k : Int)) ∧ first inside other cs 0 = first inside other (cs.drop k) d) ∧ cs.length - s'.2.2.2.2.2.toNat < cs.length - (k : Int).toNat := by
        intro d' h1 h2
        refine ⟨_, rfl, ⟨k + 1, d', by omega, h1, rfl, h2⟩, ?_⟩
        dsimp only
        omega
      rw [if_pos (by simp; omega), Tr.run_bnd_some (idx_getD 0 rfl hk'), hc, Tr.run_bnd_some (isolate_F c), Tr.run_br, wrap64 (n := (k : Int) + 1) (by omega) (by omega), wrap64 (n := (d : Int) + 1) (by omega) (by omega), wrap64 (n := (d : Int) - 1) (by omega) (by omega)]
      rw [first_cons] at hf
      by_cases h1 : iso c = true
      · left
        rw [if_pos h1] at hf ⊢
        exact nx (d + 1) (by omega) hf
      · have tail : ∀ (hd0 : ¬ (c = 22 ∧ 0 < d)) (hin : ¬ (c = 22 ∧ inside = true)), (∃ s', (Tr.bnd (bidic_Strong_F c) fun c_9 => Tr.br c_9 (Tr.br ((d : Int) == 0) (Tr.bnd (base_strong_F c) fun c_10 => Tr.pure (Lap.done (Sum.inr c_10)))
              (Tr.pure (Lap.next (inside, other, (d : Int), cs, (cs.length : Int), (k : Int) + 1)))) (Tr.pure (Lap.next (inside, other, (d : Int), cs, (cs.length : Int), (k : Int) + 1))) : Tr (Lap (Bool × Int × Int × List Int × Int × Int) (Sum Int Int))).run = some (.next s') ∧
            (∃ k d : Nat, k ≤ cs.length ∧ d ≤ k ∧ s' = (inside, other, (d : Int), cs, (cs.length : Int), (k : Int)) ∧ first inside other cs 0 = first inside other (cs.drop k) d) ∧ cs.length - s'.2.2.2.2.2.toNat < cs.length - (k : Int).toNat) ∨
            (∃ r, (Tr.bnd (bidic_Strong_F c) fun c_9 => Tr.br c_9 (Tr.br ((d : Int) == 0) (Tr.bnd (base_strong_F c) fun c_10 => Tr.pure (Lap.done (Sum.inr c_10)))
              (Tr.pure (Lap.next (inside, other, (d : Int), cs, (cs.length : Int), (k : Int) + 1)))) (Tr.pure (Lap.next (inside, other, (d : Int), cs, (cs.length : Int), (k : Int) + 1))) : Tr (Lap (Bool × Int × Int × List Int × Int × Int) (Sum Int Int))).run = some (.done r) ∧
            (r = .inl (first inside other cs 0) ∨ r = .inr (first inside other cs 0))) := by
          intro hd0 hin
          rw [if_neg h1, if_neg hd0, if_neg hin] at hf
          rw [Tr.run_bnd_some (strong_F c), Tr.run_br]
          by_cases h4 : strong c = true
          · rw [if_pos h4, Tr.run_br]
            by_cases h5 : d = 0
            · right
              subst h5
              rw [if_pos (by simp), Tr.run_bnd_some (base_strong c), Tr.run_pure]
              rw [if_pos ⟨h4, rfl⟩] at hf
              exact ⟨_, rfl, .inr (by rw [hf])⟩
            · left
              rw [if_neg (by simp; omega)]
              rw [if_neg (fun h => h5 h.2)] at hf
              exact nx d (by omega) hf
          · left
            rw [if_neg h4]
            rw [if_neg (fun h => h4 h.1)] at hf
            exact nx d (by omega) hf
        rw [if_neg h1, Tr.run_br]
        by_cases h2 : c = 22
        · rw [if_pos (by simpa using h2), Tr.run_br]
          by_cases h3 : 0 < d
          · left
            rw [if_pos (by simp; omega)]
            rw [if_neg h1, if_pos ⟨h2, h3⟩] at hf
            have := nx (d - 1) (by omega) hf
            rw [show ((d - 1 : Nat) : Int) = (d : Int) - 1 by omega] at this
            exact this
          · rw [if_neg (by simp; omega), Tr.run_br, if_pos (by simpa using h2), Tr.run_br]
            by_cases h6 : inside = true
            · right
              rw [if_pos h6, Tr.run_pure]
              rw [if_neg h1, if_neg (fun h => h3 h.2), if_pos ⟨h2, h6⟩] at hf
              exact ⟨_, rfl, .inr (by rw [hf])⟩
            · rw [if_neg h6]
              exact tail (fun h => h3 h.2) (fun h => h6 h.2)
        · rw [if_neg (by simpa using h2), Tr.run_br, if_neg (by simpa using h2)]
          exact tail (fun h => h2 h.1) (fun h => h2 h.1)
  · obtain ⟨hl, rfl | rfl⟩ := hr
    · rw [Tr.run_alt_inl hl]; rfl
    · rw [Tr.run_alt_inr hl]; rfl

theorem classes_F (ns : List Int) (hn : ns.length ≤ 2097152) (h8 : ∀ n ∈ ns, 0 ≤ n ∧ n ≤ 255) : ∃ cs, law08_Classes_F ns = some cs ∧ cs.length = ns.length ∧ cs = tab ns.length (fun i => (ns.getD i 0) % 23) ∧ ∀ c ∈ cs, 0 ≤ c ∧ c ≤ 22 := by
  refine ⟨tab ns.length (fun i => (ns.getD i 0) % 23), ?_, tab_len _ _, rfl, ?_⟩
  · unfold law08_Classes_F law08_Classes_T
    have hl := loopW_count (f := fun s : List Int × List Int × Int => (law08_Classes_L3 s.1 s.2.1 s.2.2).run) ns.length
      (fun k => (ns, tab k (fun i => (ns.getD i 0) % 23), (k : Int))) (r := tab ns.length (fun i => (ns.getD i 0) % 23)) ?_ ?_
    · rw [show ((0 : Nat) : Int) = 0 from rfl, tab_zero] at hl
      rw [Tr.run_bnd_some hl]
      rfl
    · intro k hk
      dsimp only
      unfold law08_Classes_L3
      have hm := h8 (ns.getD k 0) (by simp [List.getD, hk])
      rw [Tr.run_br, if_pos (by simp; omega), Tr.run_bnd_some (idx_getD 0 rfl hk), Tr.run_bnd_some (app_eq (by simp only [tab_len, List.length_cons, List.length_nil]; omega)), Tr.run_pure, Int.tmod_eq_emod_of_nonneg hm.1,
        wrap64 (by omega) (by omega), tab_succ k (fun i => (ns.getD i 0) % 23)]
      rfl
    · dsimp only
      unfold law08_Classes_L3
      rw [Tr.run_br, if_neg (by simp), Tr.run_pure]
  · intro c hc
    simp only [tab, List.mem_map] at hc
    obtain ⟨i, _, rfl⟩ := hc
    omega

theorem awake10 : law10_awake_F = some true := by
  unfold law10_awake_F law10_awake_T
  rw [Tr.run_bnd_some (first_F _ _ _ (by simp)), Tr.run_bnd_some (first_F _ _ _ (by simp)), Tr.run_bnd_some (first_F _ _ _ (by simp))]
  rfl

/-! ### what changes nothing -/
theorem level_F (cs : List Int) (hn : cs.length ≤ 4194304) (d : Int) : base_Level_F cs d = some (if d = 0 then (first false 0 cs 0, none) else if d = 1 then (0, none) else if d = 2 then (1, none) else (0, some (3, ByteArray.mk #[100, 105, 114, 101, 99, 116, 105, 111, 110], d))) := by
  unfold base_Level_F base_Level_T
  refine Post.run ?_
  by_cases h0 : d = 0
  · rw [if_pos h0]
    exact Post.brT (beq_iff_eq.2 h0) (Post.bnd (first_F _ _ _ hn) (Post.pure rfl))
  · rw [if_neg h0]
    refine Post.brF (beq_eq_false_iff_ne.2 h0) ?_
    by_cases h1 : d = 1
    · rw [if_pos h1]
      exact Post.brT (beq_iff_eq.2 h1) (Post.pure rfl)
    · rw [if_neg h1]
      refine Post.brF (beq_eq_false_iff_ne.2 h1) ?_
      by_cases h2 : d = 2
      · rw [if_pos h2]
        exact Post.brT (beq_iff_eq.2 h2) (Post.pure rfl)
      · rw [if_neg h2]
        exact Post.brF (beq_eq_false_iff_ne.2 h2) (Post.bnd (b := some (3, ByteArray.mk #[100, 105, 114, 101, 99, 116, 105, 111, 110], d)) rfl (Post.pure rfl))
theorem told_dir (v : Int) : law02_Told_F (some (3, ByteArray.mk #[100, 105, 114, 101, 99, 116, 105, 111, 110], v)) 3 (ByteArray.mk #[100, 105, 114, 101, 99, 116, 105, 111, 110]) v = some true := by
  unfold law02_Told_F law02_Told_T
  exact Post.run (Post.brF (by rfl) (Post.bnd (b := (ByteArray.mk #[100, 105, 114, 101, 99, 116, 105, 111, 110], v)) rfl (Post.bnd (b := 3) rfl (Post.brT (by rfl) (Post.brT (by simp) (Post.pure (by simp)))))))
theorem baseLevel_true (ns : List Int) (d : Int) (hn : ns.length ≤ 2097152) (h8 : ∀ n ∈ ns, 0 ≤ n ∧ n ≤ 255) : law10_BaseLevel_F ns d = some true := by
  obtain ⟨cs, hc, hlen, _, hr⟩ := classes_F ns hn h8
  have hl := fun d => level_F cs (by omega) d
  unfold law10_BaseLevel_F law10_BaseLevel_T
  refine Post.run (Post.bnd awake10 (Post.brF rfl (Post.bnd hc (Post.bnd (hl 1) (Post.bnd (hl 2) (Post.bnd (hl 0) (Post.bnd (hl d) ?_)))))))
  refine Post.brF (by rfl) (Post.brF (by rfl) (Post.brF (by rfl) (Post.brF (by rfl) (Post.bnd (first_F cs false 0 (by omega)) (Post.brF (by simp) (Post.brF (by rfl) ?_))))))
  by_cases h0 : d < 0
  · rw [if_neg (by omega), if_neg (by omega), if_neg (by omega)]
    exact Post.brT (decide_eq_true h0) (Post.brT (by rfl) (Post.bnd (told_dir d) (Post.pure rfl)))
  · refine Post.brF (decide_eq_false h0) ?_
    by_cases h2 : d > 2
    · rw [if_neg (by omega), if_neg (by omega), if_neg (by omega)]
      exact Post.brT (decide_eq_true h2) (Post.brT (by rfl) (Post.bnd (told_dir d) (Post.pure rfl)))
    · refine Post.brF (decide_eq_false h2) ?_
      have : d = 0 ∨ d = 1 ∨ d = 2 := by omega
      rcases this with rfl | rfl | rfl
      · exact Post.brT (by rfl) (Post.brT (by rfl) (Post.brT (by rfl) (Post.brF (by rfl) (Post.pure (by simp)))))
      · exact Post.brT (by rfl) (Post.brF (by rfl) (Post.brT (by rfl) (Post.brT (by rfl) (Post.brT (by rfl) (Post.pure rfl)))))
      · exact Post.brT (by rfl) (Post.brT (by rfl) (Post.brF (by rfl) (Post.brT (by rfl) (Post.brT (by rfl) (Post.pure rfl)))))
theorem baseLevel_all (x : Tys.I [.sl (.int .u8), .int .i64]) (h : WfAll [.sl (.int .u8), .int .i64] x) (hb : bulkAll [.sl (.int .u8), .int .i64] x ≤ 1048576) : law10_BaseLevel_F x.1 x.2.1 = some true := by
  simp only [bulkAll, bulk] at hb
  exact baseLevel_true _ _ (by omega) (fun n hn => wf_u8 (h.1.2 n hn))

end Go.Proofs.YtjglcaocbepmhaaDoor
