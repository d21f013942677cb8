/-
  The classes of scalars where lines are broken, as a plain function; the law of one rune returns true.
-/
import Derived.Test.YtdccmpcafcehpaaLawFind
namespace Go.Proofs.Ytdccmpcafcehpaa
set_option linter.all false

noncomputable def linecT : List (Int × Int × Int) := linec_rows_F.getD []
theorem linec_rows : linec_rows_F = some linecT := by kernel_rfl
theorem linecT_sorted : sortedB linecT = true := by kernel_rfl
theorem linecT_len : decide (linecT.length ≤ 1000) = true := by kernel_rfl
theorem linecT_max : (linecT.all fun x => decide (0 ≤ x.2.2) && decide (x.2.2 ≤ 42)) = true := by kernel_rfl

theorem linec_table : linec_Table_F = some linecT := by
  have hl : linecT.length ≤ 1000 := of_decide_eq_true linecT_len
  unfold linec_Table_F linec_Table_T
  refine Post.run (Post.bnd linec_rows (Post.bnd (mk_eq (k := linecT.length) rfl (by omega)) (Post.bnd (count (L := fun s : (List (Int × Int × Int)) × (List (Int × Int × Int)) × Int × Int => linec_Table_L4 s.1 s.2.1 s.2.2.1 s.2.2.2) linecT.length
    (fun k => (tab linecT.length (fun i => if i < k then linecT.getD i (0, 0, 0) else (0, 0, 0)), linecT, (linecT.length : Int), (k : Int))) ?_ (fun k hk => ?_) ?_) (Post.pure rfl))))
  · rw [tab_rep]; simp
  · dsimp only
    unfold linec_Table_L4
    refine Post.brT (by simpa using hk) (Post.idx (0, 0, 0) k rfl hk ?_)
    refine Post.idx (0, 0, 0) 0 rfl (by simp) (Post.idx (0, 0, 0) 0 rfl (by simp) (Post.idx (0, 0, 0) 0 rfl (by simp) (Post.idx (0, 0, 0) k rfl (by rw [tab_len]; exact hk) (Post.pure ?_))))
    rw [wrap64 (by omega) (by omega), Int.toNat_natCast, tab_set]
    have e : tab linecT.length (fun i => if i = k then linecT.getD k (0, 0, 0) else if i < k then linecT.getD i (0, 0, 0) else (0, 0, 0)) = tab linecT.length (fun i => if i < k + 1 then linecT.getD i (0, 0, 0) else (0, 0, 0)) := tab_congr fun p hp => by
      by_cases e : p = k
      · subst e; simp
      · by_cases h : p < k
        · rw [if_neg e, if_pos h, if_pos (by omega)]
        · rw [if_neg e, if_neg h, if_neg (by omega)]
    rw [← e]; rfl
  · dsimp only
    unfold linec_Table_L4
    refine Post.brF (by simp) (Post.pure ?_)
    have e : tab linecT.length (fun i => if i < linecT.length then linecT.getD i (0, 0, 0) else (0, 0, 0)) = linecT := (tab_ext (0, 0, 0) rfl fun k hk => by rw [if_pos hk]).symm
    rw [e]

theorem wrap32 {n : Int} (h1 : -2147483648 ≤ n) (h2 : n ≤ 2147483647) : IntKind.i32.wrap n = n := by
  simp only [IntKind.wrap, IntKind.signed, IntKind.bits]
  simp
  omega
theorem wrap_succ' {n : Nat} (h : n ≤ 4194304) : IntKind.i64.wrap ((n : Int) + 1) = ((n + 1 : Nat) : Int) := by rw [wrap64 (by omega) (by omega)]; omega

/-- a scalar's class -/
noncomputable def lc (r : Int) : Int := if 44032 ≤ r ∧ r ≤ 55203 then (if (r - 44032) % 28 = 0 then 37 else 38) else finds linecT r 0
theorem lc_le (r : Int) : 0 ≤ lc r ∧ lc r ≤ 42 := by
  unfold lc
  split
  · split <;> omega
  · exact finds_mem linecT_sorted _ _ (fun v => 0 ≤ v ∧ v ≤ 42) (by omega) (fun x hx => by
      have := List.all_eq_true.1 linecT_max x hx
      simpa using this)
theorem syllable_F (r : Int) (h1 : 44032 ≤ r) (h2 : r ≤ 55203) : linec_syllable_F r = some (lc r) := by
  have e : lc r = if (r - 44032) % 28 = 0 then 37 else 38 := if_pos ⟨h1, h2⟩
  unfold linec_syllable_F linec_syllable_T
  rw [e, Tr.run_br, wrap32 (by omega) (by omega), Int.tmod_eq_emod_of_nonneg (by omega)]
  by_cases h : (r - 44032) % 28 = 0
  · rw [if_pos (by simpa using h), if_pos h]; rfl
  · rw [if_neg (by simpa using h), if_neg h]; rfl

theorem linec_of (rs : List Int) (hn : rs.length ≤ 4194304) : linec_Of_F rs = some (tab rs.length fun i => lc (rs.getD i 0)) := by
  have hl : linecT.length ≤ 1000 := of_decide_eq_true linecT_len
  unfold linec_Of_F linec_Of_T
  refine Post.run (Post.bnd linec_table (Post.bnd (mk_eq (k := rs.length) rfl (by omega)) (Post.bnd (count (L := fun s : (List (Int × Int × Int)) × List Int × List Int × Int × Int => linec_Of_L4 s.1 s.2.1 s.2.2.1 s.2.2.2.1 s.2.2.2.2) rs.length
    (fun k => (linecT, tab rs.length (fun i => if i < k then lc (rs.getD i 0) else 0), rs, (rs.length : Int), (k : Int))) ?_ (fun k hk => ?_) ?_) (Post.pure rfl))))
  · rw [tab_rep]; simp
  · dsimp only
    unfold linec_Of_L4
    have e : tab rs.length (fun i => if i = k then lc (rs.getD k 0) else if i < k then lc (rs.getD i 0) else 0) = tab rs.length (fun i => if i < k + 1 then lc (rs.getD i 0) else 0) := tab_congr fun p hp => by
      by_cases e : p = k
      · subst e; simp
      · by_cases h : p < k
        · rw [if_neg e, if_pos h, if_pos (by omega)]
        · rw [if_neg e, if_neg h, if_neg (by omega)]
    have fin : ∀ v : Int, v = lc (rs.getD k 0) → Post (Tr.bnd (idx (tab rs.length fun i => if i < k then lc (rs.getD i 0) else 0) (k : Int)) fun _ => Tr.pure (Lap.next (linecT, (tab rs.length fun i => if i < k then lc (rs.getD i 0) else 0).set (Int.toNat (k : Int)) v, rs, (rs.length : Int), IntKind.i64.wrap ((k : Int) + 1))) : Tr (Lap ((List (Int × Int × Int)) × List Int × List Int × Int × Int) (List Int)))
        (· = .next (linecT, tab rs.length (fun i => if i < k + 1 then lc (rs.getD i 0) else 0), rs, (rs.length : Int), ((k + 1 : Nat) : Int))) := fun v hv => by
      refine Post.idx 0 k rfl (by rw [tab_len]; exact hk) (Post.pure ?_)
      rw [wrap_succ' (by omega), Int.toNat_natCast, tab_set, hv, e]
    refine Post.brT (by simpa using hk) (Post.idx 0 k rfl hk (Post.br (fun h1 => Post.br (fun h2 => ?_) (fun h2 => ?_)) (fun h1 => ?_)))
    · rw [decide_eq_true_eq] at h1 h2
      exact Post.bnd (syllable_F _ h1 h2) (fin _ rfl)
    · rw [decide_eq_false_iff_not] at h2
      exact Post.bnd (find_F _ _ _ (by omega)) (fin _ (by rw [lc, if_neg (fun h => h2 h.2)]))
    · rw [decide_eq_false_iff_not] at h1
      exact Post.bnd (find_F _ _ _ (by omega)) (fin _ (by rw [lc, if_neg (fun h => h1 h.1)]))
  · dsimp only
    unfold linec_Of_L4
    refine Post.brF (by simp) (Post.pure ?_)
    have e : tab rs.length (fun i => if i < rs.length then lc (rs.getD i 0) else 0) = tab rs.length (fun i => lc (rs.getD i 0)) := tab_congr fun k hk => by rw [if_pos hk]
    rw [e]

theorem awake06 : law06_awake_F = some true := by
  unfold law06_awake_F law06_awake_T
  have f : ∀ r : Int, ¬ (44032 ≤ r ∧ r ≤ 55203) → lc r = finds linecT r 0 := fun r h => if_neg h
  have e : [finds linecT 97 0, finds linecT 32 0, finds linecT 40 0, 37, 38, finds linecT 12353 0, finds linecT 3585 0] = [1, 9, 21, 37, 38, 42, 40] := by kernel_rfl
  have e2 : (tab 7 fun i => lc ([97, 32, 40, 44032, 44033, 12353, 3585].getD i 0)) = [1, 9, 21, 37, 38, 42, 40] := by
    show [lc 97, lc 32, lc 40, lc 44032, lc 44033, lc 12353, lc 3585] = _
    rw [f 97 (by decide), f 32 (by decide), f 40 (by decide), f 12353 (by decide), f 3585 (by decide)]
    exact e
  have h : linec_Of_F [97, 32, 40, 44032, 44033, 12353, 3585] = some [1, 9, 21, 37, 38, 42, 40] := by
    rw [linec_of [97, 32, 40, 44032, 44033, 12353, 3585] (by simp)]; exact congrArg some e2
  exact Post.run (Post.bnd h (Post.brT rfl (Post.idx 0 0 rfl (by simp) (Post.brT rfl (Post.idx 0 1 rfl (by simp) (Post.brT rfl (Post.idx 0 2 rfl (by simp) (Post.brT rfl (Post.idx 0 3 rfl (by simp) (Post.brT rfl (Post.idx 0 4 rfl (by simp) (Post.brT rfl (Post.idx 0 5 rfl (by simp) (Post.brT rfl (Post.idx 0 6 rfl (by simp) (Post.pure rfl))))))))))))))))

theorem linecEach_F (rs : List Int) (k : Int) (hn : rs.length ≤ 4194304) (hk : 0 ≤ k ∧ k ≤ 65535) : law06_LinecEach_F rs k = some true := by
  unfold law06_LinecEach_F law06_LinecEach_T
  obtain ⟨m, hm, hml⟩ : ∃ m : Nat, (IntKind.i64.wrap k).tmod 11145 = (m : Int) ∧ m < 11145 := by
    rw [wrap64 (by omega) (by omega), Int.tmod_eq_emod_of_nonneg hk.1]
    exact ⟨(k % 11145).toNat, by omega, by omega⟩
  refine Post.run (Post.bnd awake06 (Post.brF rfl (Post.bnd (count (L := fun s : List Int × Int × List Int × Int => law06_LinecEach_L5 s.1 s.2.1 s.2.2.1 s.2.2.2) 28 (fun j => (rs, k, tab j (fun i => 44032 + (m : Int) + (i : Int)), (j : Int))) (by rw [tab_zero]; rfl) (fun j hj => ?_) (r := (rs, k, tab 28 (fun i => 44032 + (m : Int) + (i : Int)))) ?_) ?_)))
  · dsimp only
    unfold law06_LinecEach_L5
    rw [hm, wrap64 (n := 44032 + (m : Int)) (by omega) (by omega), wrap64 (n := 44032 + (m : Int) + (j : Int)) (by omega) (by omega), wrap32 (by omega) (by omega), wrap_succ' (by omega)]
    refine Post.brT (by simp; omega) (Post.bnd (app_eq (by simp only [tab_len, List.length_cons, List.length_nil]; omega)) (Post.pure ?_))
    rw [tab_succ]
  · dsimp only
    unfold law06_LinecEach_L5
    exact Post.brF (by simp) (Post.pure rfl)
  dsimp only
  have hrow : ∀ i, i < 28 → (tab 28 (fun i => 44032 + (m : Int) + (i : Int))).getD i 0 = 44032 + (m : Int) + (i : Int) := fun i hi => tab_getD _ _ hi
  refine Post.bnd (linec_of _ (by simp only [tab_len]; omega)) ?_
  rw [tab_len]
  have hcl : ∀ j : Nat, j < 28 → lc ((tab 28 (fun i => 44032 + (m : Int) + (i : Int))).getD j 0) = if (m + j) % 28 = 0 then 37 else 38 := fun j hj => by
    rw [hrow j hj, lc, if_pos (by omega)]
    by_cases h : (m + j) % 28 = 0
    · rw [if_pos h, if_pos (by omega)]
    · rw [if_neg h, if_neg (by omega)]
  generalize tab 28 (fun i => 44032 + (m : Int) + (i : Int)) = row at hcl
  refine Post.altL (b := (rs, k, 1)) (count (L := fun s : List Int × Int × Int × List Int × Int × Int => law06_LinecEach_L10 s.1 s.2.1 s.2.2.1 s.2.2.2.1 s.2.2.2.2.1 s.2.2.2.2.2) 28
    (fun j => (rs, k, (if (28 - m % 28) % 28 < j then 1 else 0 : Int), tab 28 (fun i => lc (row.getD i 0)), ((tab 28 (fun i => lc (row.getD i 0))).length : Int), (j : Int))) (by simp) (fun j hj => ?_) ?_) ?_
  · dsimp only
    unfold law06_LinecEach_L10
    rw [wrap_succ' (n := j) (by omega)]
    refine Post.brT (by rw [tab_len]; simp; omega) (Post.idx 0 j rfl (by rw [tab_len]; exact hj) ?_)
    rw [tab_getD _ _ hj, hcl j hj]
    by_cases h : (m + j) % 28 = 0
    · rw [if_pos h]
      refine Post.brT rfl (Post.brF rfl (Post.pure ?_))
      rw [if_neg (by omega), if_pos (by omega)]
      rfl
    · rw [if_neg h]
      refine Post.brF rfl (Post.brT rfl (Post.brF rfl (Post.pure ?_)))
      by_cases h2 : (28 - m % 28) % 28 < j
      · rw [if_pos h2, if_pos (by omega)]
      · rw [if_neg h2, if_neg (by omega)]
  · dsimp only
    unfold law06_LinecEach_L10
    refine Post.brF (by rw [tab_len]; simp) (Post.pure ?_)
    rw [if_pos (by omega)]
  · dsimp only
    refine Post.br (fun h => Post.pure rfl) (fun h => ?_)
    have hl : rs.length ≠ 0 := by simpa using h
    obtain ⟨i, hi, hil⟩ : ∃ i : Nat, (IntKind.i64.wrap k).tmod (rs.length : Int) = (i : Int) ∧ i < rs.length := by
      rw [wrap64 (by omega) (by omega), Int.tmod_eq_emod_of_nonneg hk.1]
      have h1 := Int.emod_nonneg k (b := (rs.length : Int)) (by omega)
      have h2 := Int.emod_lt_of_pos k (b := (rs.length : Int)) (by omega)
      exact ⟨(k % (rs.length : Int)).toNat, by omega, by omega⟩
    rw [hi, wrap64 (n := (i : Int) + 1) (by omega) (by omega)]
    have hcut : cut rs (i : Int) ((i : Int) + 1) = some [rs.getD i 0] := by
      rw [cut_drop (m := i) (n := i + 1) rfl (by omega) (by omega) (by omega)]
      congr 1
      apply List.ext_getElem?
      intro j
      rw [List.getElem?_drop, List.getElem?_take]
      cases j with
      | zero => simp [List.getD, hil]
      | succ j => simp
    refine Post.brT (by simpa using hl) (Post.bnd (linec_of rs hn) (Post.bnd hcut (Post.bnd (linec_of _ (by simp)) (Post.brT rfl (Post.brT (by simp [tab_len]) (Post.brT (by simp [tab_len]) (Post.idx 0 i rfl (by rw [tab_len]; exact hil) (Post.idx 0 0 rfl (by rw [tab_len]; simp) (Post.pure ?_)))))))))
    rw [tab_getD _ _ hil, tab_getD _ _ (by simp)]
    simp

theorem linecEach_all (x : Tys.I [.sl (.int .i32), .int .u16]) (h : WfAll [.sl (.int .i32), .int .u16] x) (hb : bulkAll [.sl (.int .i32), .int .u16] x ≤ 1048576) : law06_LinecEach_F x.1 x.2.1 = some true := by
  simp only [bulkAll, bulk] at hb
  exact linecEach_F _ _ (by omega) (wf_u16 h.2.1)

end Go.Proofs.Ytdccmpcafcehpaa
