/-
  Rulers: the cells of parts of a text.
-/
import Derived.Test.YtafomgonecamlaaDoorSh
import Derived.Test.YtafomgonecamlaaDoorEvMath
namespace Go.Proofs.YtafomgonecamlaaDoor
set_option linter.all false

/-- the cells ahead of place k, wrapped as the program's -/
def pre (ws : List Int) (k : Nat) : Int := (List.range k).foldl (fun a i => IntKind.i64.wrap (a + ws.getD i 0)) 0
theorem pre_zero (ws : List Int) : pre ws 0 = 0 := rfl
theorem pre_succ (ws : List Int) (k : Nat) : pre ws (k + 1) = IntKind.i64.wrap (pre ws k + ws.getD k 0) := by
  simp [pre, List.range_succ]
theorem pre_congr {ws vs : List Int} : ∀ {k : Nat}, (∀ i, i < k → ws.getD i 0 = vs.getD i 0) → pre ws k = pre vs k
  | 0, _ => rfl
  | k + 1, h => by rw [pre_succ, pre_succ, pre_congr (k := k) (fun i hi => h i (by omega)), h k (by omega)]
def Small (ws : List Int) : Prop := ws.length ≤ 4194304 ∧ ∀ k, 0 ≤ ws.getD k 0 ∧ ws.getD k 0 ≤ 2
theorem pre_small {ws : List Int} (h : Small ws) : ∀ k, k ≤ ws.length → 0 ≤ pre ws k ∧ pre ws k ≤ 2 * k
  | 0, _ => by simp [pre_zero]
  | k + 1, hk => by
    have ih := pre_small h k (by omega)
    have := h.2 k
    have := h.1
    rw [pre_succ, wrap64 (by omega) (by omega)]
    omega
theorem pre_next {ws : List Int} (h : Small ws) {k : Nat} (hk : k < ws.length) : pre ws (k + 1) = pre ws k + ws.getD k 0 := by
  have ih := pre_small h k (by omega)
  have := h.2 k
  have := h.1
  rw [pre_succ, wrap64 (by omega) (by omega)]
theorem pre_mono {ws : List Int} (h : Small ws) {i : Nat} : ∀ {j : Nat}, i ≤ j → j ≤ ws.length → pre ws i ≤ pre ws j
  | 0, hi, _ => by rw [show i = 0 by omega]; omega
  | j + 1, hi, hj => by
    by_cases e : i = j + 1
    · subst e; omega
    · have := pre_mono h (i := i) (j := j) (by omega) (by omega)
      have := h.2 j
      rw [pre_next h (by omega)]
      omega

/-- the place behind the last one of so many that is no space -/
def sol (cs : List Int) : Nat → Int
  | 0 => 0
  | k + 1 => if cs.getD k 0 != 9 then (k : Int) + 1 else sol cs k
theorem sol_succ (cs : List Int) (k : Nat) : sol cs (k + 1) = if cs.getD k 0 != 9 then (k : Int) + 1 else sol cs k := rfl
theorem sol_le (cs : List Int) : ∀ k, 0 ≤ sol cs k ∧ sol cs k ≤ k
  | 0 => by simp [sol]
  | k + 1 => by
    have := sol_le cs k
    rw [sol_succ]
    split <;> omega
theorem sol_mono (cs : List Int) {i : Nat} : ∀ {j : Nat}, i ≤ j → sol cs i ≤ sol cs j
  | 0, h => by rw [show i = 0 by omega]; omega
  | j + 1, h => by
    by_cases e : i = j + 1
    · subst e; omega
    · have h1 := sol_mono cs (i := i) (j := j) (by omega)
      have h2 := sol_le cs j
      rw [sol_succ]
      split <;> omega
theorem sol_congr {cs ds : List Int} : ∀ {k : Nat}, (∀ i, i < k → cs.getD i 0 = ds.getD i 0) → sol cs k = sol ds k
  | 0, _ => rfl
  | k + 1, h => by
    rw [sol_succ, sol_succ, sol_congr (k := k) (fun i hi => h i (by omega)), h k (by omega)]

theorem widths_F (ns : List Int) (hn : ns.length ≤ 2097152) (h8 : ∀ n ∈ ns, 0 ≤ n ∧ n ≤ 255) : ∃ ws, law22_Widths_F ns = some ws ∧ Small ws ∧ ws.length = ns.length := by
  refine ⟨tab ns.length (fun i => (ns.getD i 0) % 3), ?_, ⟨by rw [tab_len]; omega, ?_⟩, tab_len _ _⟩
  · unfold law22_Widths_F law22_Widths_T
    have hl := loopW_count (f := fun s : List Int × List Int × Int => (law22_Widths_L3 s.1 s.2.1 s.2.2).run) ns.length
      (fun k => (ns, tab k (fun i => (ns.getD i 0) % 3), (k : Int))) (r := tab ns.length (fun i => (ns.getD i 0) % 3)) ?_ ?_
    · rw [show (ns, tab 0 (fun i => (ns.getD i 0) % 3), ((0 : Nat) : Int)) = (ns, ([] : List Int), (0 : Int)) from rfl] at hl
      rw [Tr.run_bnd_some hl]
      rfl
    · intro k hk
      dsimp only
      unfold law22_Widths_L3
      have hm := h8 (ns.getD k 0) (by simp [List.getD, hk])
      rw [Tr.run_br, if_pos (by simp; omega), Tr.run_bnd_some (idx_getD 0 rfl hk), Tr.run_bnd_some (app_eq (by simp only [tab_len, List.length_cons, List.length_nil]; omega)), Tr.run_pure, Int.tmod_eq_emod_of_nonneg hm.1, wrap64 (n := ns.getD k 0 % 3) (by omega) (by omega),
        wrap64 (by omega) (by omega), tab_succ k (fun i => (ns.getD i 0) % 3)]
      rfl
    · dsimp only
      unfold law22_Widths_L3
      rw [Tr.run_br, if_neg (by simp), Tr.run_pure]
  · intro k
    by_cases hk : k < ns.length
    · rw [List.getD, tab_get _ hk]
      simp only [Option.getD_some]
      omega
    · rw [List.getD, List.getElem?_eq_none (by rw [tab_len]; omega)]
      simp
theorem classes_F (ns : List Int) (hn : ns.length ≤ 2097152) : ∃ cs, law19_Classes_F ns = some cs ∧ cs.length = ns.length := by
  refine ⟨tab ns.length (fun i => (ns.getD i 0).tmod 43), ?_, tab_len _ _⟩
  unfold law19_Classes_F law19_Classes_T
  refine Post.run (Post.bnd (count ns.length (fun k => (ns, tab k (fun i => (ns.getD i 0).tmod 43), (k : Int))) (r := tab ns.length (fun i => (ns.getD i 0).tmod 43)) rfl (fun k hk => ?_) ?_) (Post.pure rfl))
  · dsimp only
    unfold law19_Classes_L3
    refine Post.brT (decide_eq_true (by omega)) (Post.idx 0 k rfl hk (Post.bnd (app_eq (by simp only [tab_len, List.length_cons, List.length_nil]; omega)) (Post.pure ?_)))
    rw [wrap_succ (by omega), tab_succ k (fun i => (ns.getD i 0).tmod 43)]
  · dsimp only
    unfold law19_Classes_L3
    exact Post.brF (decide_eq_false (by omega)) (Post.pure rfl)

/-- the ruler of so many scalars -/
def rul (ws cs : List Int) (n : Nat) : List Int × List Int := (tab n (fun i => pre ws (i + 1)), tab n (fun i => sol cs (i + 1)))
theorem of_F (ws cs : List Int) (n : Nat) (hw : n ≤ ws.length) (hc : n ≤ cs.length) (hn : (n : Int) = if (cs.length : Int) < (ws.length : Int) then (cs.length : Int) else (ws.length : Int)) (hb : n ≤ 8388608) : measure_Of_F ws cs = some (rul ws cs n) := by
  unfold measure_Of_F measure_Of_T
  rw [← hn]
  refine Post.run (Post.bnd (count n (fun k => (ws, cs, rul ws cs k, pre ws k, sol cs k, (n : Int), (k : Int))) (r := rul ws cs n) rfl (fun k hk => ?_) ?_) (Post.pure rfl))
  · dsimp only
    unfold measure_Of_L4
    refine Post.brT (decide_eq_true (by omega)) (Post.idx 0 k rfl (by omega) (Post.idx 0 k rfl (by omega) ?_))
    have e1 : rul ws cs (k + 1) = ((rul ws cs k).1 ++ [pre ws (k + 1)], (rul ws cs k).2 ++ [sol cs (k + 1)]) := by
      simp only [rul]
      rw [← tab_succ, ← tab_succ]
    refine Post.br (fun h => ?_) (fun h => ?_)
    · refine Post.bnd (app_eq (by simp only [rul, tab_len, List.length_cons, List.length_nil]; omega)) (Post.bnd (app_eq (by simp only [rul, tab_len, List.length_cons, List.length_nil]; omega)) (Post.pure ?_))
      rw [e1, ← pre_succ, wrap_succ (by omega)]
      have : sol cs (k + 1) = ((k + 1 : Nat) : Int) := by rw [sol_succ, if_pos h]; omega
      rw [this]
    · refine Post.bnd (app_eq (by simp only [rul, tab_len, List.length_cons, List.length_nil]; omega)) (Post.bnd (app_eq (by simp only [rul, tab_len, List.length_cons, List.length_nil]; omega)) (Post.pure ?_))
      rw [e1, ← pre_succ, wrap_succ (by omega)]
      have : sol cs (k + 1) = sol cs k := by rw [sol_succ, if_neg (by rw [h]; simp)]
      rw [this]
  · dsimp only
    unfold measure_Of_L4
    exact Post.brF (decide_eq_false (by omega)) (Post.pure rfl)

theorem count_F (ws cs : List Int) (n : Nat) : measure_Ruler_Count_F (rul ws cs n) = some (n : Int) := by
  unfold measure_Ruler_Count_F measure_Ruler_Count_T
  simp [rul, tab_len, Tr.run_pure]
theorem upTo_F {p : Nat → Int} (h0 : p 0 = 0) {n k : Nat} (hk : k ≤ n) (hb : n ≤ 8388608) : measure_upTo_F (tab n (fun i => p (i + 1))) (k : Int) = some (p k) := by
  unfold measure_upTo_F measure_upTo_T
  refine Post.run (Post.br (fun h => Post.pure ?_) (fun h => ?_))
  · have h : (k : Int) = 0 := by simpa using h
    rw [show k = 0 by omega, h0]
  · have h : ¬ (k : Int) = 0 := by simpa using h
    refine ptab (k - 1) (by rw [wrap64 (by omega) (by omega)]; omega) (by omega) (Post.pure ?_)
    rw [show k - 1 + 1 = k by omega]

/-- the cells of a part, where there is one -/
def cel (ws : List Int) (n : Nat) (i j : Int) : Int := if 0 ≤ i ∧ i ≤ j ∧ j ≤ n then pre ws j.toNat - pre ws i.toNat else 0
theorem cells_F {ws cs : List Int} {n : Nat} (hs : Small ws) (hw : n ≤ ws.length) (i j : Int) : measure_Ruler_Cells_F (rul ws cs n) i j = some (cel ws n i j) := by
  have hb := hs.1
  unfold measure_Ruler_Cells_F measure_Ruler_Cells_T cel
  refine Post.run (Post.br (fun h => Post.pure ?_) (fun h => Post.br (fun h2 => Post.pure ?_) (fun h2 => Post.bnd (count_F ws cs n) (Post.br (fun h3 => Post.pure ?_) (fun h3 => ?_)))))
  · rw [if_neg]; simp at h; omega
  · rw [if_neg]; simp at h h2; omega
  · rw [if_neg]; simp at h h2 h3; omega
  · simp only [Bool.or_eq_true, Bool.and_eq_true, beq_iff_eq, bne_iff_ne, decide_eq_true_eq, ne_eq, Bool.not_eq_true', beq_eq_false_iff_ne, bne_eq_false_iff_eq, decide_eq_false_iff_not, Decidable.not_not, Bool.or_eq_false_iff, Bool.and_eq_false_iff, Bool.not_eq_false'] at h h2 h3
    rw [if_pos (by omega)]
    obtain ⟨a, rfl⟩ : ∃ a : Nat, i = a := ⟨i.toNat, by omega⟩
    obtain ⟨b, rfl⟩ : ∃ b : Nat, j = b := ⟨j.toNat, by omega⟩
    refine Post.bnd (upTo_F (p := pre ws) (pre_zero ws) (k := b) (by omega) (by omega)) (Post.bnd (upTo_F (p := pre ws) (pre_zero ws) (k := a) (by omega) (by omega)) (Post.pure ?_))
    have h4 := pre_small hs a (by omega)
    have h5 := pre_small hs b (by omega)
    rw [wrap64 (by omega) (by omega)]
    rfl
theorem cel_at {ws : List Int} {n a b : Nat} (h1 : a ≤ b) (h2 : b ≤ n) : cel ws n (a : Int) (b : Int) = pre ws b - pre ws a := by
  unfold cel
  rw [if_pos (by omega)]
  rfl

/-- what is shown of a part -/
def sho (ws cs : List Int) (n : Nat) (i j : Int) : Int := if 0 ≤ i ∧ i ≤ j ∧ j ≤ n then pre ws (max i.toNat (sol cs j.toNat).toNat) - pre ws i.toNat else 0
theorem shown_F {ws cs : List Int} {n : Nat} (hs : Small ws) (hw : n ≤ ws.length) (i j : Int) : measure_Ruler_Shown_F (rul ws cs n) i j = some (sho ws cs n i j) := by
  have hb := hs.1
  unfold measure_Ruler_Shown_F measure_Ruler_Shown_T
  refine Post.run (Post.br (fun h => Post.pure ?_) (fun h => Post.bnd (count_F ws cs n) (Post.br (fun h3 => Post.pure ?_) (fun h3 => ?_))))
  · simp only [Bool.or_eq_true, Bool.and_eq_true, beq_iff_eq, bne_iff_ne, decide_eq_true_eq, ne_eq, Bool.not_eq_true', beq_eq_false_iff_ne, bne_eq_false_iff_eq, decide_eq_false_iff_not, Decidable.not_not, Bool.or_eq_false_iff, Bool.and_eq_false_iff, Bool.not_eq_false'] at h
    unfold sho
    rw [if_neg (by omega)]
  · simp only [Bool.or_eq_true, Bool.and_eq_true, beq_iff_eq, bne_iff_ne, decide_eq_true_eq, ne_eq, Bool.not_eq_true', beq_eq_false_iff_ne, bne_eq_false_iff_eq, decide_eq_false_iff_not, Decidable.not_not, Bool.or_eq_false_iff, Bool.and_eq_false_iff, Bool.not_eq_false'] at h3
    unfold sho
    rw [if_neg (by omega)]
  · simp only [Bool.or_eq_true, Bool.and_eq_true, beq_iff_eq, bne_iff_ne, decide_eq_true_eq, ne_eq, Bool.not_eq_true', beq_eq_false_iff_ne, bne_eq_false_iff_eq, decide_eq_false_iff_not, Decidable.not_not, Bool.or_eq_false_iff, Bool.and_eq_false_iff, Bool.not_eq_false'] at h h3
    obtain ⟨b, rfl⟩ : ∃ b : Nat, j = b := ⟨j.toNat, by omega⟩
    refine Post.bnd (upTo_F (p := sol cs) rfl (k := b) (by omega) (by omega)) (Post.bnd (cells_F hs hw _ _) (Post.pure ?_))
    have h4 := sol_le cs b
    unfold cel sho
    by_cases hi : 0 ≤ i ∧ i ≤ (b : Int)
    · have e : (if (if sol cs b > i then sol cs b else i) < (b : Int) then (if sol cs b > i then sol cs b else i) else (b : Int)) = ((max i.toNat (sol cs b).toNat : Nat) : Int) := by
        repeat' split
        all_goals omega
      rw [e, if_pos (by omega), if_pos (by omega)]
      rfl
    · rw [if_neg (by omega), if_neg]
      repeat' split
      all_goals omega
theorem sho_at {ws cs : List Int} {n a b : Nat} (h1 : a ≤ b) (h2 : b ≤ n) : sho ws cs n (a : Int) (b : Int) = pre ws (max a (sol cs b).toNat) - pre ws a := by
  unfold sho
  rw [if_pos (by omega)]
  rfl

def who (ws : List Int) (n : Nat) (i : Int) : Bool := i == (n : Int) || (decide (0 ≤ i ∧ i < n) && ws.getD i.toNat 0 != 0)
theorem whole_F {ws cs : List Int} {n : Nat} (hs : Small ws) (hw : n ≤ ws.length) (i : Int) (hi : -9223372036854775808 ≤ i ∧ i ≤ 9223372036854775807) : measure_Ruler_Whole_F (rul ws cs n) i = some (who ws n i) := by
  have hb := hs.1
  unfold measure_Ruler_Whole_F measure_Ruler_Whole_T who
  refine Post.run (Post.bnd (count_F ws cs n) (Post.br (fun h => Post.pure ?_) (fun h => Post.bnd (cells_F hs hw _ _) (Post.pure ?_))))
  · rw [h]; rfl
  · rw [h, Bool.false_or]
    have h : ¬ i = (n : Int) := by simpa using h
    unfold cel
    by_cases hc : 0 ≤ i ∧ i < n
    · rw [decide_eq_true hc, Bool.true_and, wrap64 (by omega) (by omega), if_pos (by omega)]
      obtain ⟨a, rfl⟩ : ∃ a : Nat, i = a := ⟨i.toNat, by omega⟩
      rw [show ((a : Int) + 1).toNat = a + 1 by omega, show (a : Int).toNat = a by omega, pre_next hs (by omega)]
      rw [show pre ws a + ws.getD a 0 - pre ws a = ws.getD a 0 by omega]
    · rw [decide_eq_false hc, Bool.false_and]
      rw [if_neg]
      · rfl
      · intro h3
        by_cases e : i = 9223372036854775807
        · rw [e] at h3
          have : IntKind.i64.wrap (9223372036854775807 + 1) = -9223372036854775808 := by decide
          omega
        · rw [wrap64 (by omega) (by omega)] at h3
          omega

theorem min_nat (ws cs : List Int) : ∃ n : Nat, (n : Int) = (if (cs.length : Int) < (ws.length : Int) then (cs.length : Int) else (ws.length : Int)) ∧ n ≤ ws.length ∧ n ≤ cs.length ∧ (n = ws.length ∨ n = cs.length) := by
  by_cases h : (cs.length : Int) < (ws.length : Int)
  · exact ⟨cs.length, by rw [if_pos h], by omega, Nat.le_refl _, .inr rfl⟩
  · exact ⟨ws.length, by rw [if_neg h], Nat.le_refl _, by omega, .inl rfl⟩

end Go.Proofs.YtafomgonecamlaaDoor
