/-
  What is not strong, no isolate's beginning and no PDI changes nothing.
-/
import Derived.Test.YthcliopepcdnlaaSh
import Derived.Test.YthcliopepcdnlaaEvMath
namespace Go.Proofs.Ythcliopepcdnlaa
set_option linter.all false

def iso (c : Int) : Bool := c == 19 || c == 20 || c == 21
theorem isolate_F (c : Int) : bidic_Isolate_F c = some (iso c) := by
  unfold bidic_Isolate_F bidic_Isolate_T iso
  rw [Tr.run_br, Tr.run_br]
  by_cases h1 : c = 19
  · simp [h1, Tr.run_pure]
  · by_cases h2 : c = 20
    · simp [h2, Tr.run_pure]
    · simp [h1, h2, Tr.run_pure]
def strong (c : Int) : Bool := c == 0 || c == 1 || c == 2
theorem strong_F (c : Int) : bidic_Strong_F c = some (strong c) := by
  unfold bidic_Strong_F bidic_Strong_T strong
  rw [Tr.run_br, Tr.run_br]
  by_cases h1 : c = 0
  · simp [h1, Tr.run_pure]
  · by_cases h2 : c = 1
    · simp [h2, Tr.run_pure]
    · simp [h1, h2, Tr.run_pure]

/-- what the first strong class tells, from a depth on -/
def first (inside : Bool) (other : Int) : List Int → Nat → Int
  | [], _ => other
  | c :: r, d => if iso c then first inside other r (d + 1) else if c = 22 ∧ 0 < d then first inside other r (d - 1) else if c = 22 ∧ inside = true then other else
      if strong c = true ∧ d = 0 then (if c = 0 then 0 else 1) else first inside other r d

theorem first_cons (inside : Bool) (other c : Int) (r : List Int) (d : Nat) : first inside other (c :: r) d = if iso c then first inside other r (d + 1) else if c = 22 ∧ 0 < d then first inside other r (d - 1) else if c = 22 ∧ inside = true then other else
      if strong c = true ∧ d = 0 then (if c = 0 then 0 else 1) else first inside other r d := rfl
theorem drop_cons {l : List Int} {k : Nat} (h : k < l.length) : l.drop k = l.getD k 0 :: l.drop (k + 1) := by
  rw [List.drop_eq_getElem_cons h]
  simp [List.getD, h]

theorem base_strong (c : Int) : base_strong_F c = some (if c = 0 then 0 else 1) := by
  unfold base_strong_F base_strong_T
  rw [Tr.run_br]
  by_cases h : c = 0
  · simp [h, Tr.run_pure]
  · simp [h, Tr.run_pure]

theorem first_F (cs : List Int) (inside : Bool) (other : Int) (hn : cs.length ≤ 4194304) : base_First_F cs inside other = some (first inside other cs 0) := by
  unfold base_First_F base_First_T
  refine Exists.elim (loopW_rule (f := fun s : Bool × Int × Int × List Int × Int × Int => (base_First_L3 s.1 s.2.1 s.2.2.1 s.2.2.2.1 s.2.2.2.2.1 s.2.2.2.2.2).run)
    (fun s => ∃ k d : Nat, k ≤ cs.length ∧ d ≤ k ∧ s = (inside, other, (d : Int), cs, (cs.length : Int), (k : Int)) ∧ first inside other cs 0 = first inside other (cs.drop k) d)
    (fun s => cs.length - s.2.2.2.2.2.toNat)
    (fun r => r = .inl (first inside other cs 0) ∨ r = .inr (first inside other cs 0)) ?_ (inside, other, 0, cs, (cs.length : Int), 0) ⟨0, 0, by omega, by omega, rfl, rfl⟩) (fun r hr => ?_)
  · rintro s ⟨k, d, hk, hd, rfl, hf⟩
    dsimp only
    unfold base_First_L3
    rw [Tr.run_br]
    by_cases e : k = cs.length
    · right
      subst e
      rw [if_neg (by simp), Tr.run_pure]
      refine ⟨_, rfl, .inl ?_⟩
      rw [hf]
      simp [first]
    · have hk' : k < cs.length := by omega
      rw [drop_cons hk'] at hf
      generalize hc : cs.getD k 0 = c at hf
      have nx : ∀ d' : Nat, d' ≤ k + 1 → first inside other cs 0 = first inside other (cs.drop (k + 1)) d' → ∃ s', (Tr.pure (Lap.next (inside, other, (d' : Int), cs, (cs.length : Int), (k : Int) + 1)) : Tr (Lap (Bool × Int × Int × List Int × Int × Int) (Sum Int Int))).run = some (.next s') ∧
          (∃ k d : Nat, k ≤ cs.length ∧ d ≤ k ∧ s' = (inside, other, (d : Int), cs, (cs.length : Int), (k : Int)) ∧ first inside other cs 0 = first inside other (cs.drop k) d) ∧ cs.length - s'.2.2.2.2.2.toNat < cs.length - (k : Int).toNat := by
        intro d' h1 h2
        refine ⟨_, rfl, ⟨k + 1, d', by omega, h1, rfl, h2⟩, ?_⟩
        dsimp only
        omega
      rw [if_pos (by simp; omega), Tr.run_bnd_some (idx_getD 0 rfl hk'), hc, Tr.run_bnd_some (isolate_F c), Tr.run_br, wrap64 (n := (k : Int) + 1) (by omega) (by omega), wrap64 (n := (d : Int) + 1) (by omega) (by omega), wrap64 (n := (d : Int) - 1) (by omega) (by omega)]
      rw [first_cons] at hf
      by_cases h1 : iso c = true
      · left
        rw [if_pos h1] at hf ⊢
        exact nx (d + 1) (by omega) hf
      · have tail : ∀ (hd0 : ¬ (c = 22 ∧ 0 < d)) (hin : ¬ (c = 22 ∧ inside = true)), (∃ s', (Tr.bnd (bidic_Strong_F c) fun c_9 => Tr.br c_9 (Tr.br ((d : Int) == 0) (Tr.bnd (base_strong_F c) fun c_10 => Tr.pure (Lap.done (Sum.inr c_10)))
              (Tr.pure (Lap.next (inside, other, (d : Int), cs, (cs.length : Int), (k : Int) + 1)))) (Tr.pure (Lap.next (inside, other, (d : Int), cs, (cs.length : Int), (k : Int) + 1))) : Tr (Lap (Bool × Int × Int × List Int × Int × Int) (Sum Int Int))).run = some (.next s') ∧
            (∃ k d : Nat, k ≤ cs.length ∧ d ≤ k ∧ s' = (inside, other, (d : Int), cs, (cs.length : Int), (k : Int)) ∧ first inside other cs 0 = first inside other (cs.drop k) d) ∧ cs.length - s'.2.2.2.2.2.toNat < cs.length - (k : Int).toNat) ∨
            (∃ r, (Tr.bnd (bidic_Strong_F c) fun c_9 => Tr.br c_9 (Tr.br ((d : Int) == 0) (Tr.bnd (base_strong_F c) fun c_10 => Tr.pure (Lap.done (Sum.inr c_10)))
              (Tr.pure (Lap.next (inside, other, (d : Int), cs, (cs.length : Int), (k : Int) + 1)))) (Tr.pure (Lap.next (inside, other, (d : Int), cs, (cs.length : Int), (k : Int) + 1))) : Tr (Lap (Bool × Int × Int × List Int × Int × Int) (Sum Int Int))).run = some (.done r) ∧
            (r = .inl (first inside other cs 0) ∨ r = .inr (first inside other cs 0))) := by
          intro hd0 hin
          rw [if_neg h1, if_neg hd0, if_neg hin] at hf
          rw [Tr.run_bnd_some (strong_F c), Tr.run_br]
          by_cases h4 : strong c = true
          · rw [if_pos h4, Tr.run_br]
            by_cases h5 : d = 0
            · right
              subst h5
              rw [if_pos (by simp), Tr.run_bnd_some (base_strong c), Tr.run_pure]
              rw [if_pos ⟨h4, rfl⟩] at hf
              exact ⟨_, rfl, .inr (by rw [hf])⟩
            · left
              rw [if_neg (by simp; omega)]
              rw [if_neg (fun h => h5 h.2)] at hf
              exact nx d (by omega) hf
          · left
            rw [if_neg h4]
            rw [if_neg (fun h => h4 h.1)] at hf
            exact nx d (by omega) hf
        rw [if_neg h1, Tr.run_br]
        by_cases h2 : c = 22
        · rw [if_pos (by simpa using h2), Tr.run_br]
          by_cases h3 : 0 < d
          · left
            rw [if_pos (by simp; omega)]
            rw [if_neg h1, if_pos ⟨h2, h3⟩] at hf
            have := nx (d - 1) (by omega) hf
            rw [show ((d - 1 : Nat) : Int) = (d : Int) - 1 by omega] at this
            exact this
          · rw [if_neg (by simp; omega), Tr.run_br, if_pos (by simpa using h2), Tr.run_br]
            by_cases h6 : inside = true
            · right
              rw [if_pos h6, Tr.run_pure]
              rw [if_neg h1, if_neg (fun h => h3 h.2), if_pos ⟨h2, h6⟩] at hf
              exact ⟨_, rfl, .inr (by rw [hf])⟩
            · rw [if_neg h6]
              exact tail (fun h => h3 h.2) (fun h => h6 h.2)
        · rw [if_neg (by simpa using h2), Tr.run_br, if_neg (by simpa using h2)]
          exact tail (fun h => h2 h.1) (fun h => h2 h.1)
  · obtain ⟨hl, rfl | rfl⟩ := hr
    · rw [Tr.run_alt_inl hl]; rfl
    · rw [Tr.run_alt_inr hl]; rfl

theorem classes_F (ns : List Int) (hn : ns.length ≤ 2097152) (h8 : ∀ n ∈ ns, 0 ≤ n ∧ n ≤ 255) : ∃ cs, law08_Classes_F ns = some cs ∧ cs.length = ns.length ∧ cs = tab ns.length (fun i => (ns.getD i 0) % 23) ∧ ∀ c ∈ cs, 0 ≤ c ∧ c ≤ 22 := by
  refine ⟨tab ns.length (fun i => (ns.getD i 0) % 23), ?_, tab_len _ _, rfl, ?_⟩
  · unfold law08_Classes_F law08_Classes_T
    have hl := loopW_count (f := fun s : List Int × List Int × Int => (law08_Classes_L3 s.1 s.2.1 s.2.2).run) ns.length
      (fun k => (ns, tab k (fun i => (ns.getD i 0) % 23), (k : Int))) (r := tab ns.length (fun i => (ns.getD i 0) % 23)) ?_ ?_
    · rw [show ((0 : Nat) : Int) = 0 from rfl, tab_zero] at hl
      rw [Tr.run_bnd_some hl]
      rfl
    · intro k hk
      dsimp only
      unfold law08_Classes_L3
      have hm := h8 (ns.getD k 0) (by simp [List.getD, hk])
      rw [Tr.run_br, if_pos (by simp; omega), Tr.run_bnd_some (idx_getD 0 rfl hk), Tr.run_bnd_some (app_eq (by simp only [tab_len, List.length_cons, List.length_nil]; omega)), Tr.run_pure, Int.tmod_eq_emod_of_nonneg hm.1,
        wrap64 (by omega) (by omega), tab_succ k (fun i => (ns.getD i 0) % 23)]
      rfl
    · dsimp only
      unfold law08_Classes_L3
      rw [Tr.run_br, if_neg (by simp), Tr.run_pure]
  · intro c hc
    simp only [tab, List.mem_map] at hc
    obtain ⟨i, _, rfl⟩ := hc
    omega

theorem awake10 : law10_awake_F = some true := by
  unfold law10_awake_F law10_awake_T
  rw [Tr.run_bnd_some (first_F _ _ _ (by simp)), Tr.run_bnd_some (first_F _ _ _ (by simp)), Tr.run_bnd_some (first_F _ _ _ (by simp))]
  rfl

/-! ### what changes nothing -/
def keep (c : Int) : Bool := strong c || iso c || c == 22
theorem first_few (inside : Bool) (other : Int) : ∀ (l : List Int) (d : Nat), first inside other (l.filter keep) d = first inside other l d
  | [], _ => rfl
  | c :: r, d => by
    by_cases h : keep c = true
    · rw [List.filter_cons_of_pos h, first_cons, first_cons]
      simp only [first_few inside other r]
    · rw [List.filter_cons_of_neg h, first_few inside other r d, first_cons]
      have h1 : iso c = false := by cases hh : iso c <;> simp_all [keep]
      have h2 : c ≠ 22 := by intro e; subst e; simp [keep] at h
      have h3 : strong c = false := by cases hh : strong c <;> simp_all [keep]
      rw [if_neg (by rw [h1]; simp), if_neg (fun hh => h2 hh.1), if_neg (fun hh => h2 hh.1), if_neg (fun hh => by rw [h3] at hh; cases hh.1)]
theorem first_two (inside : Bool) : ∀ (l : List Int) (d : Nat), first inside 0 l d = 0 ∨ first inside 0 l d = 1
  | [], _ => .inl rfl
  | c :: r, d => by
    rw [first_cons]
    split
    · exact first_two inside r _
    · split
      · exact first_two inside r _
      · split
        · exact .inl rfl
        · split
          · split
            · exact .inl rfl
            · exact .inr rfl
          · exact first_two inside r _

theorem baseNeutral_F (ns : List Int) (inside : Bool) (other : Int) (hn : ns.length ≤ 2097152) (h8 : ∀ n ∈ ns, 0 ≤ n ∧ n ≤ 255) : law10_BaseNeutral_F ns inside other = some true := by
  unfold law10_BaseNeutral_F law10_BaseNeutral_T
  obtain ⟨cs, hc, hl, _, _⟩ := classes_F ns hn h8
  have hlev : base_Level_F cs 0 = some (first false 0 cs 0, none) := by
    unfold base_Level_F base_Level_T
    exact Post.run (Post.brT rfl (Post.bnd (first_F cs false 0 (by omega)) (Post.pure rfl)))
  have hfl := List.length_filter_le keep cs
  refine Post.run (Post.bnd awake10 (Post.brF rfl (Post.bnd hc (Post.bnd (count (L := fun s : Bool × Int × List Int × List Int × Int × Int => law10_BaseNeutral_L6 s.1 s.2.1 s.2.2.1 s.2.2.2.1 s.2.2.2.2.1 s.2.2.2.2.2) cs.length (fun k => (inside, other, cs, (cs.take k).filter keep, (cs.length : Int), (k : Int))) (r := (inside, other, cs, cs.filter keep)) rfl (fun k hk => ?_) ?_)
    (Post.bnd hlev (Post.bnd (first_F cs inside other (by omega)) (Post.bnd (first_F (cs.filter keep) inside other (by omega)) ?_)))))))
  · dsimp only
    have ht : cs.take (k + 1) = cs.take k ++ [cs.getD k 0] := by rw [List.take_succ]; simp [List.getD, hk]
    have hlen := List.length_filter_le keep (cs.take k)
    rw [List.length_take] at hlen
    unfold law10_BaseNeutral_L6
    rw [wrap_succ (by omega), ht, List.filter_append]
    refine Post.brT (by rw [decide_eq_true_eq]; omega) (Post.idx 0 k rfl hk ?_)
    generalize cs.getD k 0 = c
    have yes : keep c = true → (([c] : List Int).filter keep) = [c] := fun h => by rw [List.filter_cons_of_pos h]; rfl
    have no : ¬ keep c = true → (([c] : List Int).filter keep) = [] := fun h => by rw [List.filter_cons_of_neg h]; rfl
    refine Post.bnd (strong_F c) (Post.br (fun h => ?_) (fun h => ?_))
    · rw [yes (by simp [keep, h])]
      exact Post.bnd (app_eq (by simp; omega)) (Post.pure rfl)
    · refine Post.bnd (isolate_F c) (Post.br (fun h2 => ?_) (fun h2 => ?_))
      · rw [yes (by simp [keep, h2])]
        exact Post.bnd (app_eq (by simp; omega)) (Post.pure rfl)
      · refine Post.br (fun h3 => ?_) (fun h3 => ?_)
        · rw [yes (by simp [keep, h3])]
          exact Post.bnd (app_eq (by simp; omega)) (Post.pure rfl)
        · rw [no (by simp [keep, h, h2, h3]), List.append_nil]
          exact Post.pure rfl
  · dsimp only
    unfold law10_BaseNeutral_L6
    exact Post.brF (by simp) (Post.pure (by rw [List.take_of_length_le (Nat.le_refl _)]))
  · rw [first_few]
    refine Post.brT (by simp) (Post.brT rfl ?_)
    dsimp only
    rcases first_two false cs 0 with h | h
    · rw [h]; exact Post.brT rfl (Post.pure rfl)
    · rw [h]; exact Post.brF rfl (Post.pure rfl)
theorem baseNeutral_all (x : Tys.I [.sl (.int .u8), .bool, .int .i64]) (h : WfAll [.sl (.int .u8), .bool, .int .i64] x) (hb : bulkAll [.sl (.int .u8), .bool, .int .i64] x ≤ 1048576) : law10_BaseNeutral_F x.1 x.2.1 x.2.2.1 = some true := by
  simp only [bulkAll, bulk] at hb
  exact baseNeutral_F _ _ _ (by omega) (fun n hn => wf_u8 (h.1.2 n hn))

end Go.Proofs.Ythcliopepcdnlaa
