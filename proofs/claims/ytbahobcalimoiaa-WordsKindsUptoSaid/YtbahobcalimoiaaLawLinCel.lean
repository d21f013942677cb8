/-
  The classes of scalars where lines are broken, as a plain function.
-/
import Derived.Test.YtbahobcalimoiaaLawFind
namespace Go.Proofs.Ytbahobcalimoiaa
set_option linter.all false

noncomputable def linecT : List (Int × Int × Int) := linec_rows_F.getD []
theorem linec_rows : linec_rows_F = some linecT := by kernel_rfl
theorem linecT_sorted : sortedB linecT = true := by kernel_rfl
theorem linecT_len : decide (linecT.length ≤ 1000) = true := by kernel_rfl
theorem linecT_max : (linecT.all fun x => decide (0 ≤ x.2.2) && decide (x.2.2 ≤ 42)) = true := by kernel_rfl

theorem linec_table : linec_Table_F = some linecT := by
  have hl : linecT.length ≤ 1000 := of_decide_eq_true linecT_len
  unfold linec_Table_F linec_Table_T
  refine Post.run (Post.bnd linec_rows (Post.bnd (mk_eq (k := linecT.length) rfl (by omega)) (Post.bnd (count (L := fun s : (List (Int × Int × Int)) × (List (Int × Int × Int)) × Int × Int => linec_Table_L4 s.1 s.2.1 s.2.2.1 s.2.2.2) linecT.length
    (fun k => (tab linecT.length (fun i => if i < k then linecT.getD i (0, 0, 0) else (0, 0, 0)), linecT, (linecT.length : Int), (k : Int))) ?_ (fun k hk => ?_) ?_) (Post.pure rfl))))
  · rw [tab_rep]; simp
  · dsimp only
    unfold linec_Table_L4
    refine Post.brT (by simpa using hk) (Post.idx (0, 0, 0) k rfl hk ?_)
    refine Post.idx (0, 0, 0) 0 rfl (by simp) (Post.idx (0, 0, 0) 0 rfl (by simp) (Post.idx (0, 0, 0) 0 rfl (by simp) (Post.idx (0, 0, 0) k rfl (by rw [tab_len]; exact hk) (Post.pure ?_))))
    rw [wrap64 (by omega) (by omega), Int.toNat_natCast, tab_set]
    have e : tab linecT.length (fun i => if i = k then linecT.getD k (0, 0, 0) else if i < k then linecT.getD i (0, 0, 0) else (0, 0, 0)) = tab linecT.length (fun i => if i < k + 1 then linecT.getD i (0, 0, 0) else (0, 0, 0)) := tab_congr fun p hp => by
      by_cases e : p = k
      · subst e; simp
      · by_cases h : p < k
        · rw [if_neg e, if_pos h, if_pos (by omega)]
        · rw [if_neg e, if_neg h, if_neg (by omega)]
    rw [← e]; rfl
  · dsimp only
    unfold linec_Table_L4
    refine Post.brF (by simp) (Post.pure ?_)
    have e : tab linecT.length (fun i => if i < linecT.length then linecT.getD i (0, 0, 0) else (0, 0, 0)) = linecT := (tab_ext (0, 0, 0) rfl fun k hk => by rw [if_pos hk]).symm
    rw [e]

theorem wrap32 {n : Int} (h1 : -2147483648 ≤ n) (h2 : n ≤ 2147483647) : IntKind.i32.wrap n = n := by
  simp only [IntKind.wrap, IntKind.signed, IntKind.bits]
  simp
  omega
theorem wrap_succ' {n : Nat} (h : n ≤ 8388608) : IntKind.i64.wrap ((n : Int) + 1) = ((n + 1 : Nat) : Int) := by rw [wrap64 (by omega) (by omega)]; omega

/-- a scalar's class -/
noncomputable def lc (r : Int) : Int := if 44032 ≤ r ∧ r ≤ 55203 then (if (r - 44032) % 28 = 0 then 37 else 38) else finds linecT r 0
theorem lc_le (r : Int) : 0 ≤ lc r ∧ lc r ≤ 42 := by
  unfold lc
  split
  · split <;> omega
  · exact finds_mem linecT_sorted _ _ (fun v => 0 ≤ v ∧ v ≤ 42) (by omega) (fun x hx => by
      have := List.all_eq_true.1 linecT_max x hx
      simpa using this)
theorem syllable_F (r : Int) (h1 : 44032 ≤ r) (h2 : r ≤ 55203) : linec_syllable_F r = some (lc r) := by
  have e : lc r = if (r - 44032) % 28 = 0 then 37 else 38 := if_pos ⟨h1, h2⟩
  unfold linec_syllable_F linec_syllable_T
  rw [e, Tr.run_br, wrap32 (by omega) (by omega), Int.tmod_eq_emod_of_nonneg (by omega)]
  by_cases h : (r - 44032) % 28 = 0
  · rw [if_pos (by simpa using h), if_pos h]; rfl
  · rw [if_neg (by simpa using h), if_neg h]; rfl

theorem linec_of (rs : List Int) (hn : rs.length ≤ 8388608) : linec_Of_F rs = some (tab rs.length fun i => lc (rs.getD i 0)) := by
  have hl : linecT.length ≤ 1000 := of_decide_eq_true linecT_len
  unfold linec_Of_F linec_Of_T
  refine Post.run (Post.bnd linec_table (Post.bnd (mk_eq (k := rs.length) rfl (by omega)) (Post.bnd (count (L := fun s : (List (Int × Int × Int)) × List Int × List Int × Int × Int => linec_Of_L4 s.1 s.2.1 s.2.2.1 s.2.2.2.1 s.2.2.2.2) rs.length
    (fun k => (linecT, tab rs.length (fun i => if i < k then lc (rs.getD i 0) else 0), rs, (rs.length : Int), (k : Int))) ?_ (fun k hk => ?_) ?_) (Post.pure rfl))))
  · rw [tab_rep]; simp
  · dsimp only
    unfold linec_Of_L4
    have e : tab rs.length (fun i => if i = k then lc (rs.getD k 0) else if i < k then lc (rs.getD i 0) else 0) = tab rs.length (fun i => if i < k + 1 then lc (rs.getD i 0) else 0) := tab_congr fun p hp => by
      by_cases e : p = k
      · subst e; simp
      · by_cases h : p < k
        · rw [if_neg e, if_pos h, if_pos (by omega)]
        · rw [if_neg e, if_neg h, if_neg (by omega)]
    have fin : ∀ v : Int, v = lc (rs.getD k 0) → Post (Tr.bnd (idx (tab rs.length fun i => if i < k then lc (rs.getD i 0) else 0) (k : Int)) fun _ => Tr.pure (Lap.next (linecT, (tab rs.length fun i => if i < k then lc (rs.getD i 0) else 0).set (Int.toNat (k : Int)) v, rs, (rs.length : Int), IntKind.i64.wrap ((k : Int) + 1))) : Tr (Lap ((List (Int × Int × Int)) × List Int × List Int × Int × Int) (List Int)))
        (· = .next (linecT, tab rs.length (fun i => if i < k + 1 then lc (rs.getD i 0) else 0), rs, (rs.length : Int), ((k + 1 : Nat) : Int))) := fun v hv => by
      refine Post.idx 0 k rfl (by rw [tab_len]; exact hk) (Post.pure ?_)
      rw [wrap_succ' (by omega), Int.toNat_natCast, tab_set, hv, e]
    refine Post.brT (by simpa using hk) (Post.idx 0 k rfl hk (Post.br (fun h1 => Post.br (fun h2 => ?_) (fun h2 => ?_)) (fun h1 => ?_)))
    · rw [decide_eq_true_eq] at h1 h2
      exact Post.bnd (syllable_F _ h1 h2) (fin _ rfl)
    · rw [decide_eq_false_iff_not] at h2
      exact Post.bnd (find_F _ _ _ (by omega)) (fin _ (by rw [lc, if_neg (fun h => h2 h.2)]))
    · rw [decide_eq_false_iff_not] at h1
      exact Post.bnd (find_F _ _ _ (by omega)) (fin _ (by rw [lc, if_neg (fun h => h1 h.1)]))
  · dsimp only
    unfold linec_Of_L4
    refine Post.brF (by simp) (Post.pure ?_)
    have e : tab rs.length (fun i => if i < rs.length then lc (rs.getD i 0) else 0) = tab rs.length (fun i => lc (rs.getD i 0)) := tab_congr fun k hk => by rw [if_pos hk]
    rw [e]

noncomputable def cellwT : List (Int × Int × Int) := cellw_rows_F.getD []
theorem cellw_rows : cellw_rows_F = some cellwT := by kernel_rfl
theorem cellwT_sorted : sortedB cellwT = true := by kernel_rfl
theorem cellwT_len : decide (cellwT.length ≤ 1000) = true := by kernel_rfl
theorem cellwT_max : (cellwT.all fun x => decide (0 ≤ x.2.2) && decide (x.2.2 ≤ 2)) = true := by kernel_rfl

theorem cellw_table : cellw_Table_F = some cellwT := by
  have hl : cellwT.length ≤ 1000 := of_decide_eq_true cellwT_len
  unfold cellw_Table_F cellw_Table_T
  refine Post.run (Post.bnd cellw_rows (Post.bnd (mk_eq (k := cellwT.length) rfl (by omega)) (Post.bnd (count (L := fun s : (List (Int × Int × Int)) × (List (Int × Int × Int)) × Int × Int => cellw_Table_L4 s.1 s.2.1 s.2.2.1 s.2.2.2) cellwT.length
    (fun k => (tab cellwT.length (fun i => if i < k then cellwT.getD i (0, 0, 0) else (0, 0, 0)), cellwT, (cellwT.length : Int), (k : Int))) ?_ (fun k hk => ?_) ?_) (Post.pure rfl))))
  · rw [tab_rep]; simp
  · dsimp only
    unfold cellw_Table_L4
    refine Post.brT (by simpa using hk) (Post.idx (0, 0, 0) k rfl hk ?_)
    refine Post.idx (0, 0, 0) 0 rfl (by simp) (Post.idx (0, 0, 0) 0 rfl (by simp) (Post.idx (0, 0, 0) 0 rfl (by simp) (Post.idx (0, 0, 0) k rfl (by rw [tab_len]; exact hk) (Post.pure ?_))))
    rw [wrap64 (by omega) (by omega), Int.toNat_natCast, tab_set]
    have e : tab cellwT.length (fun i => if i = k then cellwT.getD k (0, 0, 0) else if i < k then cellwT.getD i (0, 0, 0) else (0, 0, 0)) = tab cellwT.length (fun i => if i < k + 1 then cellwT.getD i (0, 0, 0) else (0, 0, 0)) := tab_congr fun p hp => by
      by_cases e : p = k
      · subst e; simp
      · by_cases h : p < k
        · rw [if_neg e, if_pos h, if_pos (by omega)]
        · rw [if_neg e, if_neg h, if_neg (by omega)]
    rw [← e]; rfl
  · dsimp only
    unfold cellw_Table_L4
    refine Post.brF (by simp) (Post.pure ?_)
    have e : tab cellwT.length (fun i => if i < cellwT.length then cellwT.getD i (0, 0, 0) else (0, 0, 0)) = cellwT := (tab_ext (0, 0, 0) rfl fun k hk => by rw [if_pos hk]).symm
    rw [e]


noncomputable def cw (r : Int) : Int := if 0 ≤ r ∧ r ≤ 1114111 then finds cellwT r 1 else 0
theorem cw_le (r : Int) : 0 ≤ cw r ∧ cw r ≤ 2 := by
  unfold cw
  split
  · exact finds_mem cellwT_sorted _ _ (fun v => 0 ≤ v ∧ v ≤ 2) (by omega) (fun x hx => by
      have := List.all_eq_true.1 cellwT_max x hx
      simpa using this)
  · omega

theorem cellw_of (rs : List Int) (hn : rs.length ≤ 8388608) : cellw_Of_F rs = some (tab rs.length fun i => cw (rs.getD i 0)) := by
  have hl : cellwT.length ≤ 1000 := of_decide_eq_true cellwT_len
  unfold cellw_Of_F cellw_Of_T
  refine Post.run (Post.bnd cellw_table (Post.bnd (mk_eq (k := rs.length) rfl (by omega)) (Post.bnd (count (L := fun s : (List (Int × Int × Int)) × List Int × List Int × Int × Int => cellw_Of_L4 s.1 s.2.1 s.2.2.1 s.2.2.2.1 s.2.2.2.2) rs.length
    (fun k => (cellwT, tab rs.length (fun i => if i < k then cw (rs.getD i 0) else 0), rs, (rs.length : Int), (k : Int))) ?_ (fun k hk => ?_) ?_) (Post.pure rfl))))
  · rw [tab_rep]; simp
  · dsimp only
    unfold cellw_Of_L4
    have e : ∀ v : Int, v = cw (rs.getD k 0) → tab rs.length (fun i => if i = k then v else if i < k then cw (rs.getD i 0) else 0) = tab rs.length (fun i => if i < k + 1 then cw (rs.getD i 0) else 0) := fun v hv => tab_congr fun p hp => by
      by_cases e : p = k
      · subst e; simp [hv]
      · by_cases h : p < k
        · rw [if_neg e, if_pos h, if_pos (by omega)]
        · rw [if_neg e, if_neg h, if_neg (by omega)]
    have e0 : cw (rs.getD k 0) = 0 → tab rs.length (fun i => if i < k then cw (rs.getD i 0) else 0) = tab rs.length (fun i => if i < k + 1 then cw (rs.getD i 0) else 0) := fun hv => tab_congr fun p hp => by
      by_cases e : p = k
      · subst e; rw [if_neg (by omega), if_pos (by omega), hv]
      · by_cases h : p < k
        · rw [if_pos h, if_pos (by omega)]
        · rw [if_neg h, if_neg (by omega)]
    have hadd : IntKind.i64.wrap ((k : Int) + 1) = ((k + 1 : Nat) : Int) := by rw [wrap64 (by omega) (by omega)]; omega
    rw [hadd]
    refine Post.brT (by simpa using hk) (Post.idx 0 k rfl hk (Post.br (fun h1 => Post.br (fun h2 => ?_) (fun h2 => Post.pure ?_)) (fun h1 => Post.pure ?_)))
    · have h1 : 0 ≤ rs.getD k 0 := by simpa using h1
      have h2 : rs.getD k 0 ≤ 1114111 := by simpa using h2
      have hc : cw (rs.getD k 0) = finds cellwT (rs.getD k 0) 1 := by rw [cw, if_pos ⟨h1, h2⟩]
      have hw := cw_le (rs.getD k 0)
      refine Post.bnd (find_F _ _ _ (by omega)) (Post.idx 0 k rfl (by rw [tab_len]; exact hk) (Post.pure ?_))
      rw [← hc, wrap64 (n := cw (rs.getD k 0)) (by omega) (by omega), Int.toNat_natCast, tab_set, e _ rfl]
    · have h2 : ¬ rs.getD k 0 ≤ 1114111 := by simpa using h2
      rw [e0 (by rw [cw, if_neg (fun h => h2 h.2)])]
    · have h1 : ¬ 0 ≤ rs.getD k 0 := by simpa using h1
      rw [e0 (by rw [cw, if_neg (fun h => h1 h.1)])]
  · dsimp only
    unfold cellw_Of_L4
    refine Post.brF (by simp) (Post.pure ?_)
    have e : tab rs.length (fun i => if i < rs.length then cw (rs.getD i 0) else 0) = tab rs.length (fun i => cw (rs.getD i 0)) := tab_congr fun k hk => by rw [if_pos hk]
    rw [e]

end Go.Proofs.Ytbahobcalimoiaa
