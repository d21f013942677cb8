/-
  The laws of cells return true.
-/
import Derived.Test.YtfjhbhnelkpgdaaSh
import Derived.Test.YtfjhbhnelkpgdaaEvMath
namespace Go.Proofs.Ytfjhbhnelkpgdaa

/-- the cells ahead of place k, wrapped as the program's -/
def pre (ws : List Int) (k : Nat) : Int := (List.range k).foldl (fun a i => IntKind.i64.wrap (a + ws.getD i 0)) 0
theorem pre_zero (ws : List Int) : pre ws 0 = 0 := rfl
theorem pre_succ (ws : List Int) (k : Nat) : pre ws (k + 1) = IntKind.i64.wrap (pre ws k + ws.getD k 0) := by
  simp [pre, List.range_succ]

theorem starts_F (ws : List Int) (hn : ws.length ≤ 4194304) : cells_Starts_F ws = some (tab ws.length (pre ws), pre ws ws.length) := by
  unfold cells_Starts_F cells_Starts_T
  rw [Tr.run_bnd_some (mk_eq rfl (by omega))]
  have hl := loopW_count (f := fun s : List Int × Int × List Int × Int × Int => (cells_Starts_L4 s.1 s.2.1 s.2.2.1 s.2.2.2.1 s.2.2.2.2).run) ws.length
    (fun k => (tab ws.length (fun i => if i < k then pre ws i else 0), pre ws k, ws, (ws.length : Int), (k : Int))) (r := (tab ws.length (pre ws), pre ws ws.length)) ?_ ?_
  · have e : (tab ws.length (fun i => if i < 0 then pre ws i else 0), pre ws 0, ws, (ws.length : Int), ((0 : Nat) : Int)) = (List.replicate ws.length (0 : Int), (0 : Int), ws, (ws.length : Int), (0 : Int)) := by
      rw [tab_rep]; simp [pre_zero]
    rw [e] at hl
    rw [Tr.run_bnd_some hl]
    rfl
  · intro k hk
    dsimp only
    unfold cells_Starts_L4
    rw [Tr.run_br, if_pos (by simp; omega), Tr.run_bnd_some (idx_getD 0 rfl hk), Tr.run_bnd_some (idx_tab rfl hk), Tr.run_pure]
    rw [show Int.toNat (k : Int) = k from rfl, tab_set, ← pre_succ, wrap64 (by omega) (by omega)]
    congr 3
    apply tab_congr
    intro i hi
    by_cases h1 : i = k
    · subst h1; simp
    · simp only [h1, if_false]
      by_cases h2 : i < k
      · simp [h2, show i < k + 1 by omega]
      · simp [h2, show ¬ i < k + 1 by omega]
  · dsimp only
    unfold cells_Starts_L4
    rw [Tr.run_br, if_neg (by simp), Tr.run_pure]
    congr 3
    apply tab_congr
    intro i hi
    simp [hi]

theorem awake28 : law28_awake_F = some true := by
  unfold law28_awake_F law28_awake_T
  have hs := starts_F [1, 0, 2] (by simp)
  rw [Tr.run_bnd_some hs]
  have h1 : cells_Hit_F [1, 0, 2] 1 = some (2, true) := by
    unfold cells_Hit_F cells_Hit_T
    rw [Tr.run_alt_inr (loopW_eq (n := 10) (r := Sum.inr (2, true)) (by rfl))]; rfl
  have h2 : cells_Hit_F [1, 0, 2] 9 = some (2, true) := by
    unfold cells_Hit_F cells_Hit_T
    rw [Tr.run_alt_inl (loopW_eq (n := 10) (r := Sum.inl (2, true)) (by rfl))]; rfl
  have h3 : cells_Hit_F [1, 0, 2] (-1) = some (0, true) := by
    unfold cells_Hit_F cells_Hit_T
    rw [Tr.run_alt_inr (loopW_eq (n := 10) (r := Sum.inr (0, true)) (by rfl))]; rfl
  have h4 : cells_Hit_F [0] 0 = some (0, false) := by
    unfold cells_Hit_F cells_Hit_T
    rw [Tr.run_alt_inl (loopW_eq (n := 10) (r := Sum.inl (0, false)) (by rfl))]; rfl
  rw [Tr.run_bnd_some h1, Tr.run_bnd_some h2, Tr.run_bnd_some h3, Tr.run_bnd_some h4]
  rfl

theorem cellsStarts_true (ws : List Int) (hn : ws.length ≤ 4194304) : law28_CellsStarts_F ws = some true := by
  unfold law28_CellsStarts_F law28_CellsStarts_T
  rw [Tr.run_bnd_some awake28, Tr.run_br, if_neg (by simp), Tr.run_bnd_some (starts_F ws hn), Tr.run_br, if_neg (by simp [tab_len])]
  have hl := loopW_count (f := fun s : List Int × List Int × Int × Int × Int => (law28_CellsStarts_L8 s.1 s.2.1 s.2.2.1 s.2.2.2.1 s.2.2.2.2).run) ws.length
    (fun k => (ws, tab ws.length (pre ws), pre ws ws.length, pre ws k, (k : Int))) (r := .inl (pre ws ws.length, pre ws ws.length)) ?_ ?_
  · rw [show (ws, (tab ws.length (pre ws), pre ws ws.length).1, (tab ws.length (pre ws), pre ws ws.length).2, (0 : Int), (0 : Int)) = (ws, tab ws.length (pre ws), pre ws ws.length, pre ws 0, ((0 : Nat) : Int)) from rfl]
    rw [Tr.run_alt_inl hl]
    simp [Tr.run_pure]
  · intro k hk
    dsimp only
    unfold law28_CellsStarts_L8
    rw [Tr.run_br, if_pos (by simp; omega), Tr.run_bnd_some (idx_tab rfl hk), Tr.run_br, if_neg (by simp), Tr.run_bnd_some (idx_getD 0 rfl hk), Tr.run_pure, ← pre_succ, wrap64 (by omega) (by omega)]
    rfl
  · dsimp only
    unfold law28_CellsStarts_L8
    rw [Tr.run_br, if_neg (by simp), Tr.run_pure]

/-! ### widths of 0, 1 or 2 -/
def Small (ws : List Int) : Prop := ws.length ≤ 4194304 ∧ ∀ k, 0 ≤ ws.getD k 0 ∧ ws.getD k 0 ≤ 2
theorem pre_small {ws : List Int} (h : Small ws) : ∀ k, k ≤ ws.length → 0 ≤ pre ws k ∧ pre ws k ≤ 2 * k
  | 0, _ => by simp [pre_zero]
  | k + 1, hk => by
    have ih := pre_small h k (by omega)
    have := h.2 k
    have := h.1
    rw [pre_succ, wrap64 (by omega) (by omega)]
    omega
theorem pre_next {ws : List Int} (h : Small ws) {k : Nat} (hk : k < ws.length) : pre ws (k + 1) = pre ws k + ws.getD k 0 := by
  have ih := pre_small h k (by omega)
  have := h.2 k
  have := h.1
  rw [pre_succ, wrap64 (by omega) (by omega)]
theorem pre_mono {ws : List Int} (h : Small ws) {i : Nat} : ∀ {j : Nat}, i ≤ j → j ≤ ws.length → pre ws i ≤ pre ws j
  | 0, hi, _ => by rw [show i = 0 by omega]; omega
  | j + 1, hi, hj => by
    by_cases e : i = j + 1
    · subst e; omega
    · have := pre_mono h (i := i) (j := j) (by omega) (by omega)
      have := h.2 j
      rw [pre_next h (by omega)]
      omega

theorem widths_F (ns : List Int) (hn : ns.length ≤ 2097152) (h8 : ∀ n ∈ ns, 0 ≤ n ∧ n ≤ 255) : ∃ ws, law22_Widths_F ns = some ws ∧ Small ws ∧ ws.length = ns.length := by
  refine ⟨tab ns.length (fun i => (ns.getD i 0) % 3), ?_, ⟨by rw [tab_len]; omega, ?_⟩, tab_len _ _⟩
  · unfold law22_Widths_F law22_Widths_T
    have hl := loopW_count (f := fun s : List Int × List Int × Int => (law22_Widths_L3 s.1 s.2.1 s.2.2).run) ns.length
      (fun k => (ns, tab k (fun i => (ns.getD i 0) % 3), (k : Int))) (r := tab ns.length (fun i => (ns.getD i 0) % 3)) ?_ ?_
    · rw [show (ns, tab 0 (fun i => (ns.getD i 0) % 3), ((0 : Nat) : Int)) = (ns, ([] : List Int), (0 : Int)) from rfl] at hl
      rw [Tr.run_bnd_some hl]
      rfl
    · intro k hk
      dsimp only
      unfold law22_Widths_L3
      have hm := h8 (ns.getD k 0) (by simp [List.getD, hk])
      rw [Tr.run_br, if_pos (by simp; omega), Tr.run_bnd_some (idx_getD 0 rfl hk), Tr.run_bnd_some (app_eq (by simp only [tab_len, List.length_cons, List.length_nil]; omega)), Tr.run_pure, Int.tmod_eq_emod_of_nonneg hm.1, wrap64 (n := ns.getD k 0 % 3) (by omega) (by omega),
        wrap64 (by omega) (by omega), tab_succ k (fun i => (ns.getD i 0) % 3)]
      rfl
    · dsimp only
      unfold law22_Widths_L3
      rw [Tr.run_br, if_neg (by simp), Tr.run_pure]
  · intro k
    by_cases hk : k < ns.length
    · rw [List.getD, tab_get _ hk]
      simp only [Option.getD_some]
      omega
    · rw [List.getD, List.getElem?_eq_none (by rw [tab_len]; omega)]
      simp

/-- which one has a cell -/
theorem hit_F {ws : List Int} (h : Small ws) (c : Int) (hc : c ≤ 9223372036854775807) : ∃ k ok, cells_Hit_F ws c = some (k, ok) ∧ (ok = true ↔ 0 < pre ws ws.length) ∧ (ok = false → k = 0) ∧
    (ok = true → ∃ j, j < ws.length ∧ k = (j : Int) ∧ 0 < ws.getD j 0 ∧ (pre ws j ≤ c ∨ pre ws j = 0) ∧ (c < pre ws (j + 1) ∨ pre ws (j + 1) = pre ws ws.length)) := by
  unfold cells_Hit_F cells_Hit_T
  have hn := h.1
  generalize hC : (if 0 > c then (0 : Int) else c) = C
  have hC0 : 0 ≤ C ∧ C ≤ 9223372036854775807 ∧ (C = c ∨ C = 0 ∧ c < 0) := by subst hC; split <;> omega
  refine Exists.elim (loopW_rule (f := fun s : Int × Bool × Int × List Int × Int × Int => (cells_Hit_L4 s.1 s.2.1 s.2.2.1 s.2.2.2.1 s.2.2.2.2.1 s.2.2.2.2.2).run)
    (fun s => ∃ k, k ≤ ws.length ∧ s.2.2.1 = C - pre ws k ∧ 0 ≤ s.2.2.1 ∧ s.2.2.2 = (ws, (ws.length : Int), (k : Int)) ∧ (s.2.1 = true ↔ 0 < pre ws k) ∧ (s.2.1 = false → s.1 = 0) ∧
      (s.2.1 = true → ∃ j, j < k ∧ s.1 = (j : Int) ∧ 0 < ws.getD j 0 ∧ pre ws (j + 1) = pre ws k))
    (fun s => ws.length - s.2.2.2.2.2.toNat)
    (fun r => (∃ k ok, r = .inl (k, ok) ∧ pre ws ws.length ≤ C ∧ (ok = true ↔ 0 < pre ws ws.length) ∧ (ok = false → k = 0) ∧ (ok = true → ∃ j, j < ws.length ∧ k = (j : Int) ∧ 0 < ws.getD j 0 ∧ pre ws (j + 1) = pre ws ws.length)) ∨
      (∃ j : Nat, r = .inr ((j : Int), true) ∧ j < ws.length ∧ 0 < ws.getD j 0 ∧ pre ws j ≤ C ∧ C < pre ws (j + 1))) ?_ (0, false, C, ws, (ws.length : Int), 0)
    ⟨0, by omega, by simp [pre_zero], hC0.1, rfl, by simp [pre_zero], fun _ => rfl, fun h => by cases h⟩) (fun r hr => ?_)
  rotate_left
  · obtain ⟨hl, hQ⟩ := hr
    rcases hQ with ⟨k, ok, rfl, h1, h2, h3, h4⟩ | ⟨j, rfl, h1, h2, h3, h4⟩
    · rw [Tr.run_alt_inl hl]
      refine ⟨k, ok, rfl, h2, h3, fun hok => ?_⟩
      obtain ⟨j, h5, h6, h7, h8⟩ := h4 hok
      refine ⟨j, h5, h6, h7, ?_, .inr h8⟩
      have := pre_mono h (i := j) (j := ws.length) (by omega) (by omega)
      have := pre_small h j (by omega)
      omega
    · rw [Tr.run_alt_inr hl]
      have := pre_small h j (by omega)
      have := pre_mono h (i := j + 1) (j := ws.length) (by omega) (by omega)
      refine ⟨j, true, rfl, ⟨fun _ => by omega, fun _ => rfl⟩, fun h => (by cases h), fun _ => ⟨j, h1, rfl, h2, by omega, ?_⟩⟩
      rcases hC0.2.2 with e | e <;> omega
  · rintro ⟨last, found, left, t⟩ ⟨k, hk, h1, h2, h3, h4, h5, h6⟩
    dsimp only at h1 h2 h3 h4 h5 h6 ⊢
    subst h3
    dsimp only
    unfold cells_Hit_L4
    by_cases e : k = ws.length
    · subst e
      right
      rw [Tr.run_br, if_neg (by simp), Tr.run_pure]
      exact ⟨_, rfl, .inl ⟨last, found, rfl, by omega, h4, h5, h6⟩⟩
    · have hk' : k < ws.length := by omega
      have hw := h.2 k
      have hp := pre_next h hk'
      have hb := pre_small h k (by omega)
      rw [Tr.run_br, if_pos (by simp; omega), Tr.run_bnd_some (idx_getD 0 rfl hk'), Tr.run_br]
      by_cases e0 : ws.getD k 0 ≤ 0
      · left
        rw [if_pos (by simpa using e0), Tr.run_pure, wrap64 (n := (k : Int) + 1) (by omega) (by omega)]
        refine ⟨_, rfl, ⟨k + 1, by omega, ?_, h2, ?_, ?_, h5, ?_⟩, ?_⟩
        · show left = _
          omega
        · rfl
        · show found = true ↔ _
          rw [h4, hp]; omega
        · intro hf
          obtain ⟨j, j1, j2, j3, j4⟩ := h6 hf
          exact ⟨j, by omega, j2, j3, by omega⟩
        · show ws.length - ((k : Int) + 1).toNat < ws.length - (k : Int).toNat
          omega
      · rw [if_neg (by simpa using e0), Tr.run_br]
        by_cases e1 : left < ws.getD k 0
        · right
          rw [if_pos (by simpa using e1), Tr.run_pure]
          exact ⟨_, rfl, .inr ⟨k, rfl, hk', by omega, by omega, by omega⟩⟩
        · left
          rw [if_neg (by simpa using e1), Tr.run_pure, wrap64 (n := (k : Int) + 1) (by omega) (by omega), wrap64 (by omega) (by omega)]
          refine ⟨_, rfl, ⟨k + 1, by omega, ?_, ?_, ?_, ?_, fun h => (by cases h), ?_⟩, ?_⟩
          · show left - _ = _
            omega
          · show 0 ≤ left - _
            omega
          · rfl
          · show true = true ↔ _
            simp; omega
          · intro _
            exact ⟨k, by omega, rfl, by omega, rfl⟩
          · show ws.length - ((k : Int) + 1).toNat < ws.length - (k : Int).toNat
            omega

theorem cellsHit_true (ns : List Int) (c : Int) (hn : ns.length ≤ 2097152) (h8 : ∀ n ∈ ns, 0 ≤ n ∧ n ≤ 255) (hc : -9223372036854775808 ≤ c ∧ c ≤ 9223372036854775807) : law28_CellsHit_F ns c = some true := by
  obtain ⟨ws, hw, h, hlen⟩ := widths_F ns hn h8
  unfold law28_CellsHit_F law28_CellsHit_T
  obtain ⟨k, ok, hh, h1, h2, h3⟩ := hit_F h c hc.2
  have hs := starts_F ws h.1
  have hm := pre_small h ws.length (by omega)
  have := h.1
  rw [Tr.run_bnd_some awake28, Tr.run_br, if_neg (by simp), Tr.run_bnd_some hw, Tr.run_bnd_some hs, Tr.run_bnd_some hh, Tr.run_br, if_neg (by simp [tab_len]), Tr.run_br]
  dsimp only
  rw [wrap64 (n := pre ws ws.length - 1) (by omega) (by omega)]
  cases ok with
  | false =>
    have : ¬ 0 < pre ws ws.length := fun e => by have := h1.2 e; cases this
    have e : decide (pre ws ws.length > 0) = false := by simp; omega
    rw [if_neg (by simp [e]), Tr.run_br, if_pos (by simp), Tr.run_pure, h2 rfl]
    rfl
  | true =>
    have hp := h1.1 rfl
    have e : decide (pre ws ws.length > 0) = true := by simp; omega
    obtain ⟨j, j1, rfl, j2, j3, j4⟩ := h3 rfl
    have hj := pre_next h j1
    have hm1 := pre_mono h (i := j + 1) (j := ws.length) (by omega) (by omega)
    have hb := pre_small h j (by omega)
    rw [if_neg (by simp [e]), Tr.run_br, if_neg (by simp), Tr.run_br, if_pos (by simp), Tr.run_br, if_pos (by simp; omega), Tr.run_bnd_some (idx_getD 0 rfl j1), Tr.run_br, if_pos (by simp only [decide_eq_true_eq]; omega),
      Tr.run_bnd_some (idx_tab rfl j1), Tr.run_br, if_pos (by simp only [decide_eq_true_eq]; split <;> split at * <;> omega), Tr.run_bnd_some (idx_tab rfl j1), Tr.run_bnd_some (idx_getD 0 rfl j1), Tr.run_pure, ← pre_succ]
    congr 1
    simp only [decide_eq_true_eq]
    split <;> split at * <;> omega

theorem cellsAll_true (ns : List Int) (hn : ns.length ≤ 2097152) (h8 : ∀ n ∈ ns, 0 ≤ n ∧ n ≤ 255) : law28_CellsAll_F ns = some true := by
  obtain ⟨ws, hw, h, hlen⟩ := widths_F ns hn h8
  unfold law28_CellsAll_F law28_CellsAll_T
  have hs := starts_F ws h.1
  have hm := pre_small h ws.length (by omega)
  have hle := h.1
  rw [Tr.run_bnd_some awake28, Tr.run_br, if_neg (by simp), Tr.run_bnd_some hw, Tr.run_bnd_some (mk_eq rfl (by omega)), Tr.run_bnd_some hs]
  dsimp only
  refine Exists.elim (loopW_rule (f := fun s : List Int × List Int × Int × Int × Int => (law28_CellsAll_L8 s.1 s.2.1 s.2.2.1 s.2.2.2.1 s.2.2.2.2).run)
    (fun s => ∃ (c : Nat) (last : Nat), (c : Int) ≤ pre ws ws.length ∧ s = (ws, tab ws.length (fun i => min (ws.getD i 0) (max 0 ((c : Int) - pre ws i))), pre ws ws.length, (last : Int), (c : Int)) ∧ (last = 0 ∨ last < ws.length ∧ pre ws last < c))
    (fun s => (pre ws ws.length - s.2.2.2.2).toNat)
    (fun r => r = .inl (ws, tab ws.length (fun i => ws.getD i 0))) ?_ (ws, List.replicate ws.length 0, pre ws ws.length, 0, 0)
    ⟨0, 0, by omega, ?_, .inl rfl⟩) (fun r hr => ?_)
  · rintro s ⟨c, last, hc, rfl, hlast⟩
    dsimp only
    unfold law28_CellsAll_L8
    rw [Tr.run_br]
    by_cases e : (c : Int) = pre ws ws.length
    · right
      rw [if_neg (by simp; omega), Tr.run_pure]
      refine ⟨_, rfl, ?_⟩
      congr 2
      apply tab_congr
      intro i hi
      have h1 := pre_next h hi
      have h2 := pre_mono h (i := i + 1) (j := ws.length) (by omega) (by omega)
      have h3 := h.2 i
      omega
    · left
      obtain ⟨k, ok, hh, q1, _, q3⟩ := hit_F h c (by omega)
      have hok : ok = true := q1.2 (by omega)
      subst hok
      obtain ⟨j, j1, rfl, j2, j3, j4⟩ := q3 rfl
      have hb := pre_small h j (by omega)
      have hj := pre_next h j1
      have hj' := h.2 j
      have hl' : last ≤ j := by
        rcases hlast with e | ⟨e1, e2⟩
        · omega
        · rcases Nat.lt_or_ge j last with e3 | e3
          · have := pre_mono h (i := j + 1) (j := last) (by omega) (by omega)
            omega
          · exact e3
      rw [if_pos (by simp; omega), Tr.run_bnd_some hh, Tr.run_br, if_neg (by simp), Tr.run_br, if_neg (by simp; omega), Tr.run_br, if_neg (by simp; omega), Tr.run_bnd_some (idx_tab rfl j1), Tr.run_bnd_some (idx_tab rfl j1), Tr.run_pure]
      refine ⟨_, rfl, ⟨c + 1, j, by omega, ?_, .inr ⟨j1, by omega⟩⟩, ?_⟩
      · dsimp only
        rw [wrap64 (n := (c : Int) + 1) (by omega) (by omega), wrap64 (by omega) (by omega), show Int.toNat (j : Int) = j from rfl, tab_set]
        congr 2
        apply tab_congr
        intro i hi
        have h1 := pre_next h hi
        have h3 := h.2 i
        by_cases e1 : i = j
        · subst e1
          simp only [if_true]
          omega
        · rw [if_neg e1]
          rcases Nat.lt_or_ge i j with e2 | e2
          · have := pre_mono h (i := i + 1) (j := j) (by omega) (by omega)
            omega
          · have := pre_mono h (i := j + 1) (j := i) (by omega) (by omega)
            omega
      · dsimp only
        rw [wrap64 (n := (c : Int) + 1) (by omega) (by omega)]
        omega
  · rw [tab_rep]
    congr 2
    apply tab_congr
    intro i hi
    have h1 := pre_small h i (by omega)
    have h3 := h.2 i
    omega
  · obtain ⟨hl, rfl⟩ := hr
    rw [Tr.run_alt_inl hl]
    have hl2 := loopW_count (f := fun s : List Int × List Int × Int × Int => (law28_CellsAll_L16 s.1 s.2.1 s.2.2.1 s.2.2.2).run) ws.length
      (fun k => (ws, tab ws.length (fun i => ws.getD i 0), (ws.length : Int), (k : Int))) (r := .inl ()) ?_ ?_
    · dsimp only
      rw [tab_len]
      rw [show ((0 : Nat) : Int) = 0 from rfl] at hl2
      rw [Tr.run_alt_inl hl2]
      rfl
    · intro k hk
      dsimp only
      unfold law28_CellsAll_L16
      rw [Tr.run_br, if_pos (by simp; omega), Tr.run_bnd_some (idx_tab rfl hk), Tr.run_bnd_some (idx_getD 0 rfl hk), Tr.run_br, if_neg (by simp), Tr.run_pure, wrap64 (by omega) (by omega)]
      rfl
    · dsimp only
      unfold law28_CellsAll_L16
      rw [Tr.run_br, if_neg (by simp), Tr.run_pure]

theorem pre_app (a b : List Int) : ∀ k, k ≤ a.length → pre (a ++ b) k = pre a k
  | 0, _ => rfl
  | k + 1, hk => by
    rw [pre_succ, pre_succ, pre_app a b k (by omega)]
    congr 2
    simp [List.getD, List.getElem?_append_left (show k < a.length by omega)]
theorem small_app {a b : List Int} (ha : Small a) (hb : Small b) (hl : a.length + b.length ≤ 4194304) : Small (a ++ b) := by
  refine ⟨by simpa using hl, fun k => ?_⟩
  rcases Nat.lt_or_ge k a.length with e | e
  · have := ha.2 k
    simpa [List.getD, List.getElem?_append_left e] using this
  · have := hb.2 (k - a.length)
    simpa [List.getD, List.getElem?_append_right e] using this
theorem pre_behind {a b : List Int} (ha : Small a) (hb : Small b) (hl : a.length + b.length ≤ 4194304) : ∀ j, j ≤ b.length → pre (a ++ b) (a.length + j) = pre a a.length + pre b j
  | 0, _ => by rw [Nat.add_zero, pre_app a b _ (by omega), pre_zero]; omega
  | j + 1, hj => by
    have ih := pre_behind ha hb hl j (by omega)
    have h1 := pre_next (small_app ha hb hl) (k := a.length + j) (by simp; omega)
    have h2 := pre_next hb (k := j) (by omega)
    rw [← Nat.add_assoc, h1, ih, h2]
    have : (a ++ b).getD (a.length + j) 0 = b.getD j 0 := by
      simp [List.getD, List.getElem?_append_right (show a.length ≤ a.length + j by omega)]
    omega

theorem cellsParts_true (ns ms : List Int) (hn : ns.length + ms.length ≤ 2097152) (h8 : ∀ n ∈ ns, 0 ≤ n ∧ n ≤ 255) (m8 : ∀ n ∈ ms, 0 ≤ n ∧ n ≤ 255) : law28_CellsParts_F ns ms = some true := by
  obtain ⟨a, hwa, ha, hla⟩ := widths_F ns (by omega) h8
  obtain ⟨b, hwb, hb, hlb⟩ := widths_F ms (by omega) m8
  have hab := small_app ha hb (by omega)
  unfold law28_CellsParts_F law28_CellsParts_T
  have hma := pre_small ha a.length (by omega)
  have hmb := pre_small hb b.length (by omega)
  have htot : pre (a ++ b) (a ++ b).length = pre a a.length + pre b b.length := by
    rw [List.length_append]; exact pre_behind ha hb (by omega) _ (by omega)
  have hlen : (a ++ b).length = a.length + b.length := List.length_append
  rw [Tr.run_bnd_some awake28, Tr.run_br, if_neg (by simp), Tr.run_bnd_some hwa, Tr.run_bnd_some hwb, Tr.run_bnd_some (starts_F a ha.1), Tr.run_bnd_some (starts_F b hb.1), Tr.run_bnd_some (app_eq (by simp; omega)), List.nil_append,
    Tr.run_bnd_some (app_eq (by omega)), Tr.run_bnd_some (starts_F _ hab.1)]
  dsimp only
  rw [Tr.run_br, if_neg (by simp [tab_len]), Tr.run_br, if_neg (by simp [tab_len]), Tr.run_br, if_neg (by rw [tab_len, hlen, wrap64 (by omega) (by omega)]; simp), Tr.run_br, if_neg (by rw [htot, wrap64 (by omega) (by omega)]; simp)]
  have hl := loopW_count (f := fun s : List Int × Int × List Int × List Int × Int × Int => (law28_CellsParts_L10 s.1 s.2.1 s.2.2.1 s.2.2.2.1 s.2.2.2.2.1 s.2.2.2.2.2).run) (a ++ b).length
    (fun k => (tab a.length (pre a), pre a a.length, tab b.length (pre b), tab (a ++ b).length (pre (a ++ b)), ((a ++ b).length : Int), (k : Int))) (r := .inl ()) ?_ ?_
  · rw [tab_len]
    rw [show ((0 : Nat) : Int) = 0 from rfl] at hl
    rw [Tr.run_alt_inl hl]
    rfl
  · intro k hk
    dsimp only
    unfold law28_CellsParts_L10
    rw [hlen] at hk
    rw [Tr.run_br, if_pos (by simp; omega), Tr.run_bnd_some (idx_tab rfl (by omega)), Tr.run_br]
    by_cases e : k < a.length
    · rw [if_pos (by simp [tab_len]; omega), Tr.run_bnd_some (idx_tab rfl e), pre_app a b k (by omega), Tr.run_br, if_neg (by simp), Tr.run_br, if_neg (by simp [tab_len]; omega), Tr.run_pure, wrap64 (by omega) (by omega)]
      rfl
    · have hp := pre_behind ha hb (by omega) (k - a.length) (by omega)
      rw [show a.length + (k - a.length) = k by omega] at hp
      have hbk := pre_small hb (k - a.length) (by omega)
      rw [if_neg (by simp [tab_len]; omega), Tr.run_br, if_pos (by simp [tab_len]; omega), tab_len, wrap64 (n := (k : Int) - (a.length : Int)) (by omega) (by omega), Tr.run_bnd_some (idx_tab (k := k - a.length) (by omega) (by omega)), Tr.run_br,
        if_neg (by rw [hp, wrap64 (by omega) (by omega)]; simp), Tr.run_pure, wrap64 (by omega) (by omega)]
      rfl
  · dsimp only
    unfold law28_CellsParts_L10
    rw [Tr.run_br, if_neg (by simp), Tr.run_pure]

/-! ### as the laws ask it -/
theorem cellsStarts_all (x : Tys.I [.sl (.int .i64)]) (_ : WfAll [.sl (.int .i64)] x) (hb : bulkAll [.sl (.int .i64)] x ≤ 1048576) : law28_CellsStarts_F x.1 = some true := by
  refine cellsStarts_true _ ?_
  simp only [bulkAll, bulk] at hb
  omega
theorem cellsHit_all (x : Tys.I [.sl (.int .u8), .int .i64]) (h : WfAll [.sl (.int .u8), .int .i64] x) (hb : bulkAll [.sl (.int .u8), .int .i64] x ≤ 1048576) : law28_CellsHit_F x.1 x.2.1 = some true := by
  simp only [bulkAll, bulk] at hb
  exact cellsHit_true _ _ (by omega) (fun n hn => wf_u8 (h.1.2 n hn)) (wf_i64 h.2.1)
theorem cellsAll_all (x : Tys.I [.sl (.int .u8)]) (h : WfAll [.sl (.int .u8)] x) (hb : bulkAll [.sl (.int .u8)] x ≤ 1048576) : law28_CellsAll_F x.1 = some true := by
  simp only [bulkAll, bulk] at hb
  exact cellsAll_true _ (by omega) (fun n hn => wf_u8 (h.1.2 n hn))
theorem cellsParts_all (x : Tys.I [.sl (.int .u8), .sl (.int .u8)]) (h : WfAll [.sl (.int .u8), .sl (.int .u8)] x) (hb : bulkAll [.sl (.int .u8), .sl (.int .u8)] x ≤ 1048576) : law28_CellsParts_F x.1 x.2.1 = some true := by
  simp only [bulkAll, bulk] at hb
  exact cellsParts_true _ _ (by omega) (fun n hn => wf_u8 (h.1.2 n hn)) (fun n hn => wf_u8 (h.2.1.2 n hn))

end Go.Proofs.Ytfjhbhnelkpgdaa
