/-
  The laws of cellw return true.
-/
import Derived.Test.YteldfdpjgpjafaaLawBidic
namespace Go.Proofs.Yteldfdpjgpjafaa
set_option linter.all false

noncomputable def cellwT : List (Int × Int × Int) := cellw_rows_F.getD []
theorem cellw_rows : cellw_rows_F = some cellwT := by kernel_rfl
theorem cellwT_sorted : sortedB cellwT = true := by kernel_rfl
theorem cellwT_len : decide (cellwT.length ≤ 1000) = true := by kernel_rfl
theorem cellwT_max : (cellwT.all fun x => decide (0 ≤ x.2.2) && decide (x.2.2 ≤ 2)) = true := by kernel_rfl

theorem cellw_table : cellw_Table_F = some cellwT := by
  have hl : cellwT.length ≤ 1000 := of_decide_eq_true cellwT_len
  unfold cellw_Table_F cellw_Table_T
  refine Post.run (Post.bnd cellw_rows (Post.bnd (mk_eq (k := cellwT.length) rfl (by omega)) (Post.bnd (count (L := fun s : (List (Int × Int × Int)) × (List (Int × Int × Int)) × Int × Int => cellw_Table_L4 s.1 s.2.1 s.2.2.1 s.2.2.2) cellwT.length
    (fun k => (tab cellwT.length (fun i => if i < k then cellwT.getD i (0, 0, 0) else (0, 0, 0)), cellwT, (cellwT.length : Int), (k : Int))) ?_ (fun k hk => ?_) ?_) (Post.pure rfl))))
  · rw [tab_rep]; simp
  · dsimp only
    unfold cellw_Table_L4
    refine Post.brT (by simpa using hk) (Post.idx (0, 0, 0) k rfl hk ?_)
    refine Post.idx (0, 0, 0) 0 rfl (by simp) (Post.idx (0, 0, 0) 0 rfl (by simp) (Post.idx (0, 0, 0) 0 rfl (by simp) (Post.idx (0, 0, 0) k rfl (by rw [tab_len]; exact hk) (Post.pure ?_))))
    rw [wrap64 (by omega) (by omega), Int.toNat_natCast, tab_set]
    have e : tab cellwT.length (fun i => if i = k then cellwT.getD k (0, 0, 0) else if i < k then cellwT.getD i (0, 0, 0) else (0, 0, 0)) = tab cellwT.length (fun i => if i < k + 1 then cellwT.getD i (0, 0, 0) else (0, 0, 0)) := tab_congr fun p hp => by
      by_cases e : p = k
      · subst e; simp
      · by_cases h : p < k
        · rw [if_neg e, if_pos h, if_pos (by omega)]
        · rw [if_neg e, if_neg h, if_neg (by omega)]
    rw [← e]; rfl
  · dsimp only
    unfold cellw_Table_L4
    refine Post.brF (by simp) (Post.pure ?_)
    have e : tab cellwT.length (fun i => if i < cellwT.length then cellwT.getD i (0, 0, 0) else (0, 0, 0)) = cellwT := (tab_ext (0, 0, 0) rfl fun k hk => by rw [if_pos hk]).symm
    rw [e]


noncomputable def cw (r : Int) : Int := if 0 ≤ r ∧ r ≤ 1114111 then finds cellwT r 1 else 0
theorem cw_le (r : Int) : 0 ≤ cw r ∧ cw r ≤ 2 := by
  unfold cw
  split
  · exact finds_mem cellwT_sorted _ _ (fun v => 0 ≤ v ∧ v ≤ 2) (by omega) (fun x hx => by
      have := List.all_eq_true.1 cellwT_max x hx
      simpa using this)
  · omega

theorem cellw_of (rs : List Int) (hn : rs.length ≤ 4194304) : cellw_Of_F rs = some (tab rs.length fun i => cw (rs.getD i 0)) := by
  have hl : cellwT.length ≤ 1000 := of_decide_eq_true cellwT_len
  unfold cellw_Of_F cellw_Of_T
  refine Post.run (Post.bnd cellw_table (Post.bnd (mk_eq (k := rs.length) rfl (by omega)) (Post.bnd (count (L := fun s : (List (Int × Int × Int)) × List Int × List Int × Int × Int => cellw_Of_L4 s.1 s.2.1 s.2.2.1 s.2.2.2.1 s.2.2.2.2) rs.length
    (fun k => (cellwT, tab rs.length (fun i => if i < k then cw (rs.getD i 0) else 0), rs, (rs.length : Int), (k : Int))) ?_ (fun k hk => ?_) ?_) (Post.pure rfl))))
  · rw [tab_rep]; simp
  · dsimp only
    unfold cellw_Of_L4
    have e : ∀ v : Int, v = cw (rs.getD k 0) → tab rs.length (fun i => if i = k then v else if i < k then cw (rs.getD i 0) else 0) = tab rs.length (fun i => if i < k + 1 then cw (rs.getD i 0) else 0) := fun v hv => tab_congr fun p hp => by
      by_cases e : p = k
      · subst e; simp [hv]
      · by_cases h : p < k
        · rw [if_neg e, if_pos h, if_pos (by omega)]
        · rw [if_neg e, if_neg h, if_neg (by omega)]
    have e0 : cw (rs.getD k 0) = 0 → tab rs.length (fun i => if i < k then cw (rs.getD i 0) else 0) = tab rs.length (fun i => if i < k + 1 then cw (rs.getD i 0) else 0) := fun hv => tab_congr fun p hp => by
      by_cases e : p = k
      · subst e; rw [if_neg (by omega), if_pos (by omega), hv]
      · by_cases h : p < k
        · rw [if_pos h, if_pos (by omega)]
        · rw [if_neg h, if_neg (by omega)]
    have hadd : IntKind.i64.wrap ((k : Int) + 1) = ((k + 1 : Nat) : Int) := by rw [wrap64 (by omega) (by omega)]; omega
    rw [hadd]
    refine Post.brT (by simpa using hk) (Post.idx 0 k rfl hk (Post.br (fun h1 => Post.br (fun h2 => ?_) (fun h2 => Post.pure ?_)) (fun h1 => Post.pure ?_)))
    · have h1 : 0 ≤ rs.getD k 0 := by simpa using h1
      have h2 : rs.getD k 0 ≤ 1114111 := by simpa using h2
      have hc : cw (rs.getD k 0) = finds cellwT (rs.getD k 0) 1 := by rw [cw, if_pos ⟨h1, h2⟩]
      have hw := cw_le (rs.getD k 0)
      refine Post.bnd (find_F _ _ _ (by omega)) (Post.idx 0 k rfl (by rw [tab_len]; exact hk) (Post.pure ?_))
      rw [← hc, wrap64 (n := cw (rs.getD k 0)) (by omega) (by omega), Int.toNat_natCast, tab_set, e _ rfl]
    · have h2 : ¬ rs.getD k 0 ≤ 1114111 := by simpa using h2
      rw [e0 (by rw [cw, if_neg (fun h => h2 h.2)])]
    · have h1 : ¬ 0 ≤ rs.getD k 0 := by simpa using h1
      rw [e0 (by rw [cw, if_neg (fun h => h1 h.1)])]
  · dsimp only
    unfold cellw_Of_L4
    refine Post.brF (by simp) (Post.pure ?_)
    have e : tab rs.length (fun i => if i < rs.length then cw (rs.getD i 0) else 0) = tab rs.length (fun i => cw (rs.getD i 0)) := tab_congr fun k hk => by rw [if_pos hk]
    rw [e]

def total : List Int → Int
  | [] => 0
  | x :: r => x + total r
theorem total_append (a b : List Int) : total (a ++ b) = total a + total b := by
  induction a with
  | nil => simp [total]
  | cons x r ih => simp only [List.cons_append, total, ih]; omega
theorem take_snoc {l : List Int} {k : Nat} (h : k < l.length) : l.take (k + 1) = l.take k ++ [l.getD k 0] := by
  rw [List.take_succ_eq_append_getElem h]
  simp [List.getD, h]
theorem total_le {l : List Int} (h : ∀ x ∈ l, 0 ≤ x ∧ x ≤ 2) : 0 ≤ total l ∧ total l ≤ 2 * l.length := by
  induction l with
  | nil => simp [total]
  | cons x r ih =>
    have h1 := h x (by simp)
    have h2 := ih (fun y hy => h y (by simp [hy]))
    simp only [total, List.length_cons]; omega

theorem cellw_sum (ws : List Int) (hn : ws.length ≤ 4194304) (h : ∀ x ∈ ws, 0 ≤ x ∧ x ≤ 2) : cellw_Sum_F ws = some (total ws) := by
  unfold cellw_Sum_F cellw_Sum_T
  refine Post.run (Post.bnd (count (L := fun s : Int × List Int × Int × Int => cellw_Sum_L3 s.1 s.2.1 s.2.2.1 s.2.2.2) ws.length
    (fun k => (total (ws.take k), ws, (ws.length : Int), (k : Int))) rfl (fun k hk => ?_) ?_) (Post.pure rfl))
  · dsimp only
    unfold cellw_Sum_L3
    have h1 := total_le (l := ws.take k) (fun x hx => h x (List.mem_of_mem_take hx))
    have h2 := h (ws.getD k 0) (by simp [List.getD, hk])
    rw [List.length_take] at h1
    refine Post.brT (by simpa using hk) (Post.idx 0 k rfl hk (Post.pure ?_))
    rw [take_snoc hk, total_append, wrap64 (n := (k : Int) + 1) (by omega) (by omega), wrap64 (by omega) (by omega)]
    simp [total]
  · dsimp only
    unfold cellw_Sum_L3
    refine Post.brF (by simp) (Post.pure ?_)
    rw [List.take_length]

theorem tab_cw (rs : List Int) : ∀ x ∈ (tab rs.length fun i => cw (rs.getD i 0)), 0 ≤ x ∧ x ≤ 2 := by
  intro x hx
  simp only [tab, List.mem_map] at hx
  obtain ⟨i, _, rfl⟩ := hx
  exact cw_le _

theorem awake07 : law07_awake_F = some true := by
  unfold law07_awake_F law07_awake_T
  have e : (tab 4 fun i => finds cellwT ([97, 768, 19968, 9].getD i 0) 1) = [1, 0, 2, 0] := by kernel_rfl
  have e2 : (tab 4 fun i => cw ([97, 768, 19968, 9].getD i 0)) = [1, 0, 2, 0] := by
    refine Eq.trans (tab_congr fun i hi => ?_) e
    rw [cw, if_pos]
    rcases i with _ | _ | _ | _ | i <;> first | (exact ⟨by decide, by decide⟩) | omega
  have h : cellw_Of_F [97, 768, 19968, 9] = some [1, 0, 2, 0] := by
    rw [cellw_of [97, 768, 19968, 9] (by simp)]; exact congrArg some e2
  exact Post.run (Post.bnd h (Post.brT rfl (Post.idx 0 0 rfl (by simp) (Post.brT rfl (Post.idx 0 1 rfl (by simp) (Post.brT rfl (Post.idx 0 2 rfl (by simp) (Post.brT rfl (Post.idx 0 3 rfl (by simp) (Post.brT rfl (Post.bnd (cellw_sum _ (by simp) (by intro x hx; simp at hx; omega)) (Post.pure rfl))))))))))))

theorem cellwSum_F (a b : List Int) (ha : a.length ≤ 2097152) (hb : b.length ≤ 2097152) : law07_CellwSum_F a b = some true := by
  unfold law07_CellwSum_F law07_CellwSum_T
  have hab : (a ++ b).length = a.length + b.length := by simp
  refine Post.run (Post.bnd awake07 (Post.brF rfl (Post.bnd (app_eq (by simp; omega)) (Post.bnd (app_eq (by simp; omega)) ?_))))
  rw [List.nil_append]
  generalize hz : (tab (a ++ b).length fun i => cw ((a ++ b).getD i 0)) = z
  have hzl : z.length = (a ++ b).length := by rw [← hz, tab_len]
  have hzw : ∀ x ∈ z, 0 ≤ x ∧ x ≤ 2 := by rw [← hz]; exact tab_cw _
  have hsplit : z = (tab a.length fun i => cw (a.getD i 0)) ++ (tab b.length fun i => cw (b.getD i 0)) := by
    rw [← hz]
    refine (tab_ext 0 (by simp [tab_len]) fun k hk => ?_).symm
    rw [append_getD, tab_len]
    by_cases h : k < a.length
    · rw [if_pos h, tab_getD _ _ h, append_getD, if_pos h]
    · rw [if_neg h, tab_getD _ _ (by omega), append_getD, if_neg h]
  have t1 := total_le (tab_cw a)
  have t2 := total_le (tab_cw b)
  rw [tab_len] at t1 t2
  have t3 := total_le hzw
  refine Post.bnd (by rw [cellw_of (a ++ b) (by omega), hz]) (Post.altL (b := (a, b, a ++ b, z)) (count (L := fun s : List Int × List Int × List Int × List Int × Int × Int => law07_CellwSum_L8 s.1 s.2.1 s.2.2.1 s.2.2.2.1 s.2.2.2.2.1 s.2.2.2.2.2) z.length
    (fun k => (a, b, a ++ b, z, (z.length : Int), (k : Int))) rfl (fun k hk => ?_) ?_) ?_)
  · dsimp only
    unfold law07_CellwSum_L8
    have h2 := hzw (z.getD k 0) (by simp [List.getD, hk])
    refine Post.brT (by simpa using hk) (Post.idx 0 k rfl hk (Post.brF (decide_eq_false (by omega)) (Post.brF (decide_eq_false (by omega)) (Post.pure ?_))))
    rw [wrap64 (by omega) (by omega)]; rfl
  · dsimp only
    unfold law07_CellwSum_L8
    exact Post.brF (by simp) (Post.pure rfl)
  · dsimp only
    refine Post.bnd (cellw_sum z (by omega) hzw) (Post.bnd (cellw_of a (by omega)) (Post.bnd (cellw_sum _ (by rw [tab_len]; omega) (tab_cw a)) (Post.bnd (cellw_of b (by omega)) (Post.bnd (cellw_sum _ (by rw [tab_len]; omega) (tab_cw b)) (Post.brT ?_ (Post.bnd (cellw_sum z (by omega) hzw) (Post.pure ?_)))))))
    · rw [wrap64 (by omega) (by omega), hsplit, total_append]; simp
    · rw [wrap64 (by omega) (by omega)]
      exact decide_eq_true (by omega)

theorem cw_letter (r : Int) (h : (97 ≤ r ∧ r ≤ 122) ∨ (48 ≤ r ∧ r ≤ 57)) : cw r = 1 := by
  rw [cw, if_pos (by omega)]
  have hno : (cellwT.all fun x => (decide (x.2.1 < 48) || decide (57 < x.1)) && (decide (x.2.1 < 97) || decide (122 < x.1))) = true := by kernel_rfl
  refine has_uniq cellwT_sorted (finds_has cellwT_sorted _ _) (.inr ⟨rfl, fun x hx hc => ?_⟩)
  have := List.all_eq_true.1 hno x hx
  simp only [Bool.and_eq_true, Bool.or_eq_true, decide_eq_true_eq] at this
  omega
theorem cw_hangul (r : Int) (h : 44032 ≤ r ∧ r ≤ 55203) : cw r = 2 := by
  rw [cw, if_pos (by omega)]
  have hin : (cellwT.any fun x => decide (x.1 ≤ 44032) && decide (55203 ≤ x.2.1) && decide (x.2.2 = 2)) = true := by kernel_rfl
  obtain ⟨x, hx, hc⟩ := List.any_eq_true.1 hin
  simp only [Bool.and_eq_true, decide_eq_true_eq] at hc
  exact has_uniq cellwT_sorted (finds_has cellwT_sorted _ _) (.inl ⟨x, hx, by omega, by omega, hc.2.symm⟩)

theorem wrap32 {n : Int} (h1 : -2147483648 ≤ n) (h2 : n ≤ 2147483647) : IntKind.i32.wrap n = n := by
  simp only [IntKind.wrap, IntKind.signed, IntKind.bits]
  simp
  omega

theorem cellwParts_F (rs : List Int) (k : Int) (hn : rs.length ≤ 4194304) (hk : 0 ≤ k ∧ k ≤ 65535) : law07_CellwParts_F rs k = some true := by
  unfold law07_CellwParts_F law07_CellwParts_T
  have hkw : IntKind.i64.wrap k = k := wrap64 (by omega) (by omega)
  rw [hkw, Int.tmod_eq_emod_of_nonneg hk.1, Int.tmod_eq_emod_of_nonneg hk.1, Int.tmod_eq_emod_of_nonneg hk.1, Int.tmod_eq_emod_of_nonneg hk.1]
  rw [wrap64 (n := 97 + k % 26) (by omega) (by omega), wrap64 (n := 48 + k % 10) (by omega) (by omega), wrap64 (n := 44032 + k % 11172) (by omega) (by omega), wrap32 (n := 97 + k % 26) (by omega) (by omega), wrap32 (n := 48 + k % 10) (by omega) (by omega), wrap32 (n := 44032 + k % 11172) (by omega) (by omega)]
  have hfew : cellw_Of_F [97 + k % 26, 48 + k % 10, 44032 + k % 11172] = some [1, 1, 2] := by
    rw [cellw_of _ (by simp)]
    show some [cw (97 + k % 26), cw (48 + k % 10), cw (44032 + k % 11172)] = _
    rw [cw_letter _ (by omega), cw_letter _ (by omega), cw_hangul _ (by omega)]
  refine Post.run (Post.bnd awake07 (Post.brF rfl (Post.bnd hfew (Post.brF rfl (Post.idx 0 0 rfl (by simp) (Post.brF rfl (Post.idx 0 1 rfl (by simp) (Post.brF rfl (Post.idx 0 2 rfl (by simp) (Post.brF rfl (Post.br (fun h => ?_) (fun h => ?_))))))))))))
  · have : rs = [] := by simpa using h
    subst this
    exact Post.bnd (cellw_of [] (by simp)) (Post.pure rfl)
  · have hl : rs.length ≠ 0 := by simpa using h
    obtain ⟨i, hi, hil⟩ : ∃ i : Nat, k % (rs.length : Int) = (i : Int) ∧ i < rs.length := by
      have h1 := Int.emod_nonneg k (b := (rs.length : Int)) (by omega)
      have h2 := Int.emod_lt_of_pos k (b := (rs.length : Int)) (by omega)
      exact ⟨(k % (rs.length : Int)).toNat, by omega, by omega⟩
    rw [hi, wrap64 (by omega) (by omega)]
    have hcut : cut rs (i : Int) ((i : Int) + 1) = some [rs.getD i 0] := by
      rw [cut_drop (m := i) (n := i + 1) rfl (by omega) (by omega) (by omega)]
      congr 1
      apply List.ext_getElem?
      intro j
      rw [List.getElem?_drop, List.getElem?_take]
      cases j with
      | zero => simp [List.getD, hil]
      | succ j => simp
    refine Post.brT (by simpa using hl) (Post.bnd (cellw_of rs hn) (Post.bnd hcut (Post.bnd (cellw_of _ (by simp)) (Post.brT (by simp [tab_len]) (Post.brT (by simp [tab_len]) (Post.idx 0 i rfl (by rw [tab_len]; exact hil) (Post.idx 0 0 rfl (by rw [tab_len]; simp) (Post.pure ?_))))))))
    rw [tab_getD _ _ hil, tab_getD _ _ (by simp)]
    simp

theorem cellwSum_all (x : Tys.I [.sl (.int .i32), .sl (.int .i32)]) (_h : WfAll [.sl (.int .i32), .sl (.int .i32)] x) (hb : bulkAll [.sl (.int .i32), .sl (.int .i32)] x ≤ 1048576) : law07_CellwSum_F x.1 x.2.1 = some true := by
  simp only [bulkAll, bulk] at hb
  exact cellwSum_F _ _ (by omega) (by omega)
theorem cellwParts_all (x : Tys.I [.sl (.int .i32), .int .u16]) (h : WfAll [.sl (.int .i32), .int .u16] x) (hb : bulkAll [.sl (.int .i32), .int .u16] x ≤ 1048576) : law07_CellwParts_F x.1 x.2.1 = some true := by
  simp only [bulkAll, bulk] at hb
  exact cellwParts_F _ _ (by omega) (wf_u16 h.2.1)

end Go.Proofs.Yteldfdpjgpjafaa
