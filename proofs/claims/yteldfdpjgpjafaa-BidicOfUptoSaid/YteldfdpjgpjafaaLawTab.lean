/-
  Tables and what the document's tables say.
-/
import Derived.Test.YteldfdpjgpjafaaLawBidic
import Derived.Test.YteldfdpjgpjafaaLawCellw
namespace Go.Proofs.Yteldfdpjgpjafaa
set_option linter.all false

def r3 (x : Int × Int × Int) : List Int := [x.1, x.2.1, x.2.2]
def boundB (t : List (Int × Int × Int)) : Bool := t.all fun x => decide (0 ≤ x.1) && decide (x.2.1 ≤ 1114111) && decide (0 ≤ x.2.2) && decide (x.2.2 ≤ 255)
theorem bidi_ref : ref04_Bidi_F = some (bidicT.map r3) := by kernel_rfl
theorem bidicT_bound : boundB bidicT = true := by kernel_rfl
theorem bidicT_ne : decide (bidicT.length ≠ 0) = true := by kernel_rfl
theorem widths_ref : ref04_Widths_F = some (cellwT.map r3) := by kernel_rfl
theorem cellwT_bound : boundB cellwT = true := by kernel_rfl
theorem cellwT_ne : decide (cellwT.length ≠ 0) = true := by kernel_rfl

theorem bound_at {t : List (Int × Int × Int)} (hs : sortedB t = true) (h : boundB t = true) {x : Int × Int × Int} (hx : x ∈ t) : 0 ≤ x.1 ∧ x.1 ≤ x.2.1 ∧ x.2.1 ≤ 1114111 ∧ 0 ≤ x.2.2 ∧ x.2.2 ≤ 255 := by
  have h1 := List.all_eq_true.1 h x hx
  simp only [Bool.and_eq_true, decide_eq_true_eq] at h1
  have h2 := (sorted_lt hs).1 x hx
  omega
theorem getD_mem {t : List (Int × Int × Int)} {k : Nat} (hk : k < t.length) : t.getD k (0, 0, 0) ∈ t := by
  simp [List.getD, hk]
theorem get_getD {t : List (Int × Int × Int)} {k : Nat} (hk : k < t.length) : t[k]? = some (t.getD k (0, 0, 0)) := by
  simp [List.getD, hk]
theorem idx_r3 {t : List (Int × Int × Int)} {i : Int} {k : Nat} (h : i = k) (hk : k < t.length) : idx (t.map r3) i = some (r3 (t.getD k (0, 0, 0))) := by
  rw [idx_get h (by rw [List.length_map]; exact hk)]
  simp [List.getD, hk]
def lastOf (t : List (Int × Int × Int)) : Nat → Int
  | 0 => -1
  | k + 1 => (t.getD k (0, 0, 0)).2.1

theorem check_F (t : List (Int × Int × Int)) (hs : sortedB t = true) (hb : boundB t = true) (hn : t.length ≤ 1000000) : trie_Check_F t = some none := by
  unfold trie_Check_F trie_Check_T
  refine Post.run (Post.altL (b := ()) (count (L := fun s : Int × List (Int × Int × Int) × Int × Int => trie_Check_L3 s.1 s.2.1 s.2.2.1 s.2.2.2) t.length (fun k => (lastOf t k, t, (t.length : Int), (k : Int))) rfl (fun k hk => ?_) ?_) (Post.pure rfl))
  · dsimp only
    have hx := bound_at hs hb (getD_mem hk)
    have hl : lastOf t k < (t.getD k (0, 0, 0)).1 := by
      cases k with
      | zero => simp only [lastOf]; omega
      | succ k => exact sorted_idx hs (get_getD (by omega)) (get_getD hk) (Nat.lt_succ_self k)
    rw [show lastOf t (k + 1) = (t.getD k (0, 0, 0)).2.1 from rfl]
    unfold trie_Check_L3
    refine Post.brT (by rw [decide_eq_true_eq]; omega) (Post.idx (0, 0, 0) k rfl hk ?_)
    generalize t.getD k (0, 0, 0) = x at *
    refine Post.bnd (b := x) rfl (Post.brF (by rw [decide_eq_false_iff_not]; omega) (Post.bnd (b := x) rfl (Post.brF (by rw [decide_eq_false_iff_not]; omega) (Post.bnd (b := x) rfl (Post.bnd (b := x) rfl (Post.brF (by rw [decide_eq_false_iff_not]; omega) (Post.bnd (b := x) rfl (Post.brF (by rw [decide_eq_false_iff_not]; omega) (Post.bnd (b := x) rfl (Post.pure ?_))))))))))
    rw [wrap_succ (by omega)]
  · dsimp only
    unfold trie_Check_L3
    exact Post.brF (by simp) (Post.pure rfl)

theorem refFind_F (t : List (Int × Int × Int)) (r o : Int) (hs : sortedB t = true) (hn : t.length ≤ 1000000) : ref04_Find_F (t.map r3) r o = some (finds t r o) := by
  have hloop := loop_ex (L := fun s : List (List Int) × Int × Int × Int => ref04_Find_L2 s.1 s.2.1 s.2.2.1 s.2.2.2)
    (I := fun s => ∃ k : Nat, k ≤ t.length ∧ s = (t.map r3, r, o, (k : Int)) ∧ ∀ i, i < k → ¬ ((t.getD i (0, 0, 0)).1 ≤ r ∧ r ≤ (t.getD i (0, 0, 0)).2.1))
    (m := fun s => t.length - s.2.2.2.toNat) (R := fun z => z = .inl (finds t r o) ∨ z = .inr (finds t r o)) (s0 := (t.map r3, r, o, 0))
    (by
      rintro s ⟨k, hk, rfl, hno⟩
      dsimp only
      unfold ref04_Find_L2
      refine Post.br (fun hc => ?_) (fun hc => Post.pure (.inl ?_))
      · rw [decide_eq_true_eq, List.length_map] at hc
        have hk2 : k < t.length := by omega
        have i0 : ∀ x, idx (r3 x) 0 = some x.1 := fun _ => rfl
        have i1 : ∀ x, idx (r3 x) 1 = some x.2.1 := fun _ => rfl
        have i2 : ∀ x, idx (r3 x) 2 = some x.2.2 := fun _ => rfl
        have next : ¬ ((t.getD k (0, 0, 0)).1 ≤ r ∧ r ≤ (t.getD k (0, 0, 0)).2.1) → (∃ k' : Nat, k' ≤ t.length ∧ (t.map r3, r, o, IntKind.i64.wrap ((k : Int) + 1)) = (t.map r3, r, o, (k' : Int)) ∧ ∀ i, i < k' → ¬ ((t.getD i (0, 0, 0)).1 ≤ r ∧ r ≤ (t.getD i (0, 0, 0)).2.1)) ∧ t.length - (IntKind.i64.wrap ((k : Int) + 1)).toNat < t.length - (k : Int).toNat := fun h => by
          refine ⟨⟨k + 1, hk2, by rw [wrap_succ (by omega)], fun i hi => ?_⟩, by rw [wrap_succ (by omega)]; omega⟩
          by_cases e : i = k
          · subst e; exact h
          · exact hno i (by omega)
        refine Post.bnd (idx_r3 rfl hk2) (Post.bnd (i0 _) (Post.br (fun c1 => ?_) (fun c1 => Post.pure (next ?_))))
        · rw [decide_eq_true_eq] at c1
          refine Post.bnd (idx_r3 rfl hk2) (Post.bnd (i1 _) (Post.br (fun c2 => ?_) (fun c2 => Post.pure (next ?_))))
          · rw [decide_eq_true_eq] at c2
            refine Post.bnd (idx_r3 rfl hk2) (Post.bnd (i2 _) (Post.pure (.inr ?_)))
            exact congrArg Sum.inr (has_uniq hs (.inl ⟨_, getD_mem hk2, c1, c2, rfl⟩) (finds_has hs r o))
          · rw [decide_eq_false_iff_not] at c2
            exact fun h => c2 h.2
        · rw [decide_eq_false_iff_not] at c1
          exact fun h => c1 h.1
      · rw [decide_eq_false_iff_not, List.length_map] at hc
        refine congrArg Sum.inl (has_uniq hs (.inr ⟨rfl, fun x hx => ?_⟩) (finds_has hs r o))
        obtain ⟨i, hi⟩ := List.getElem?_of_mem hx
        have hil : i < t.length := by
          rcases Nat.lt_or_ge i t.length with h | h
          · exact h
          · rw [List.getElem?_eq_none h] at hi; cases hi
        have := hno i (by omega)
        rw [get_getD hil] at hi
        cases hi
        exact this)
    ⟨0, by omega, rfl, fun i hi => by omega⟩
  obtain ⟨z, hz, h | h⟩ := hloop
  · subst h
    exact Post.run (Post.altL hz (Post.pure rfl))
  · subst h
    exact Post.run (Post.altR hz (Post.pure rfl))

theorem finds_bound {t : List (Int × Int × Int)} (hs : sortedB t = true) (hb : boundB t = true) (r o : Int) (ho : 0 ≤ o ∧ o ≤ 255) : 0 ≤ finds t r o ∧ finds t r o ≤ 255 := by
  rcases finds_has hs r o with ⟨x, hx, _, _, h⟩ | ⟨h, _⟩
  · have := bound_at hs hb hx
    omega
  · omega

theorem bidicTables_F (k : Int) (hk : 0 ≤ k ∧ k ≤ 65535) : law04_BidicTables_F k = some true := by
  have hl : bidicT.length ≤ 1000 := of_decide_eq_true bidicT_len
  have hne : bidicT.length ≠ 0 := of_decide_eq_true bidicT_ne
  unfold law04_BidicTables_F law04_BidicTables_T
  refine Post.run (Post.bnd awake04 (Post.brF (by rfl) (Post.bnd bidic_table (Post.bnd bidi_ref (Post.brF (by simp) (Post.bnd (check_F _ bidicT_sorted bidicT_bound (by omega)) (Post.brF (by rfl) (Post.brT (by simpa using hne) ?_))))))))
  have hm0 := Int.emod_nonneg k (b := (bidicT.length : Int)) (by omega)
  have hm1 := Int.emod_lt_of_pos k (b := (bidicT.length : Int)) (by omega)
  rw [wrap64 (n := k) (by omega) (by omega), Int.tmod_eq_emod_of_nonneg hk.1]
  obtain ⟨q, hq⟩ : ∃ q : Nat, k % (bidicT.length : Int) = (q : Int) := ⟨(k % (bidicT.length : Int)).toNat, by omega⟩
  rw [hq]
  have hq2 : q < bidicT.length := by omega
  have hx := bound_at bidicT_sorted bidicT_bound (getD_mem hq2)
  have e := idx_getD (i := (q : Int)) ((0, 0, 0) : Int × Int × Int) rfl hq2
  have e2 := idx_r3 (i := (q : Int)) rfl hq2
  generalize bidicT.getD q (0, 0, 0) = x at *
  refine Post.bnd e (Post.bnd e2 (Post.bnd (b := x.1) rfl (Post.brT (by rw [wrap64 (by omega) (by omega)]; simp) ?_)))
  refine Post.bnd e (Post.bnd e2 (Post.bnd (b := x.2.1) rfl (Post.brT (by rw [wrap64 (by omega) (by omega)]; simp) ?_)))
  refine Post.bnd e (Post.bnd e2 (Post.bnd (b := x.2.2) rfl (Post.pure (by rw [wrap64 (by omega) (by omega)]; simp))))

theorem bidicOf_F (rs : List Int) (hn : rs.length ≤ 2097152) (h : ∀ n ∈ rs, -2147483648 ≤ n ∧ n ≤ 2147483647) : law04_BidicOf_F rs = some true := by
  have hl : bidicT.length ≤ 1000 := of_decide_eq_true bidicT_len
  unfold law04_BidicOf_F law04_BidicOf_T
  refine Post.run (Post.bnd awake04 (Post.brF (by rfl) (Post.bnd (bidic_of rs (by omega)) (Post.brF (by rw [tab_len]; simp) (Post.altL (b := ()) (count (L := fun s : List Int × List Int × Int => law04_BidicOf_L7 s.1 s.2.1 s.2.2) rs.length (fun k => (rs, tab rs.length fun i => finds bidicT (rs.getD i 0) 0, (k : Int))) rfl (fun k hk => ?_) ?_) (Post.pure rfl))))))
  · dsimp only
    have hm := h (rs.getD k 0) (by simp [List.getD, hk])
    have hf := finds_bound bidicT_sorted bidicT_bound (rs.getD k 0) 0 (by omega)
    unfold law04_BidicOf_L7
    refine Post.brT (by rw [decide_eq_true_eq]; omega) (ptab k rfl hk (Post.idx 0 k rfl hk (Post.bnd bidi_ref ?_)))
    rw [wrap64 (n := rs.getD k 0) (by omega) (by omega), wrap_succ (by omega)]
    refine Post.bnd (refFind_F _ _ _ bidicT_sorted (by omega)) (Post.brF ?_ (Post.pure rfl))
    rw [wrap64 (by omega) (by omega)]
    simp
  · dsimp only
    unfold law04_BidicOf_L7
    exact Post.brF (by simp) (Post.pure rfl)

theorem bidicTables_all (x : Tys.I [.int .u16]) (h : WfAll [.int .u16] x) : law04_BidicTables_F x.1 = some true := bidicTables_F _ (wf_u16 h.1)
theorem bidicOf_all (x : Tys.I [.sl (.int .i32)]) (h : WfAll [.sl (.int .i32)] x) (hb : bulkAll [.sl (.int .i32)] x ≤ 1048576) : law04_BidicOf_F x.1 = some true := by
  simp only [bulkAll, bulk] at hb
  exact bidicOf_F _ (by omega) (fun n hn => wf_i32 (h.1.2 n hn))

theorem cellwOf_F (rs : List Int) (k : Int) (hn : rs.length ≤ 2097152) (h : ∀ n ∈ rs, -2147483648 ≤ n ∧ n ≤ 2147483647) (hk : 0 ≤ k ∧ k ≤ 65535) : law07_CellwOf_F rs k = some true := by
  have hl : cellwT.length ≤ 1000 := of_decide_eq_true cellwT_len
  have hne : cellwT.length ≠ 0 := of_decide_eq_true cellwT_ne
  unfold law07_CellwOf_F law07_CellwOf_T
  refine Post.run (Post.bnd awake07 (Post.brF (by rfl) (Post.bnd (cellw_of rs (by omega)) (Post.bnd cellw_table (Post.bnd widths_ref (Post.brF (by rw [tab_len]; simp) (Post.brF (by simp) (Post.bnd (check_F _ cellwT_sorted cellwT_bound (by omega)) (Post.brF (by rfl) (Post.brT (by simpa using hne) ?_))))))))))
  have hm0 := Int.emod_nonneg k (b := (cellwT.length : Int)) (by omega)
  have hm1 := Int.emod_lt_of_pos k (b := (cellwT.length : Int)) (by omega)
  rw [wrap64 (n := k) (by omega) (by omega), Int.tmod_eq_emod_of_nonneg hk.1]
  obtain ⟨q, hq⟩ : ∃ q : Nat, k % (cellwT.length : Int) = (q : Int) := ⟨(k % (cellwT.length : Int)).toNat, by omega⟩
  rw [hq]
  have hq2 : q < cellwT.length := by omega
  have hx := bound_at cellwT_sorted cellwT_bound (getD_mem hq2)
  have e := idx_getD (i := (q : Int)) ((0, 0, 0) : Int × Int × Int) rfl hq2
  have e2 := idx_r3 (i := (q : Int)) rfl hq2
  generalize cellwT.getD q (0, 0, 0) = x at *
  refine Post.bnd e (Post.bnd e2 (Post.bnd (b := x.1) rfl (Post.brF (by rw [wrap64 (by omega) (by omega)]; simp) ?_)))
  refine Post.bnd e (Post.bnd e2 (Post.bnd (b := x.2.1) rfl (Post.brF (by rw [wrap64 (by omega) (by omega)]; simp) ?_)))
  refine Post.bnd e (Post.bnd e2 (Post.bnd (b := x.2.2) rfl (Post.brF (by rw [wrap64 (by omega) (by omega)]; simp) ?_)))
  refine Post.altL (b := ()) (count (L := fun s : List Int × List Int × List (List Int) × Int => law07_CellwOf_L11 s.1 s.2.1 s.2.2.1 s.2.2.2) rs.length (fun j => (rs, tab rs.length fun i => cw (rs.getD i 0), cellwT.map r3, (j : Int))) rfl (fun j hj => ?_) ?_) (Post.pure rfl)
  · dsimp only
    have hm := h (rs.getD j 0) (by simp [List.getD, hj])
    unfold law07_CellwOf_L11
    refine Post.brT (by rw [decide_eq_true_eq]; omega) (Post.idx 0 j rfl hj ?_)
    rw [wrap64 (n := rs.getD j 0) (by omega) (by omega), wrap_succ (by omega)]
    refine Post.bnd (refFind_F _ _ _ cellwT_sorted (by omega)) (Post.idx 0 j rfl hj ?_)
    refine Post.br (fun c => ?_) (fun c => ?_)
    · rw [decide_eq_true_eq] at c
      refine ptab j rfl hj (Post.brF ?_ (Post.pure rfl))
      unfold cw
      rw [if_neg (by omega)]
      rfl
    · rw [decide_eq_false_iff_not] at c
      refine Post.idx 0 j rfl hj (Post.br (fun d => ?_) (fun d => ?_))
      · rw [decide_eq_true_eq] at d
        refine ptab j rfl hj (Post.brF ?_ (Post.pure rfl))
        unfold cw
        rw [if_neg (by omega)]
        rfl
      · rw [decide_eq_false_iff_not] at d
        refine ptab j rfl hj (Post.brF ?_ (Post.pure rfl))
        unfold cw
        rw [if_pos (by omega)]
        simp
  · dsimp only
    unfold law07_CellwOf_L11
    exact Post.brF (by simp) (Post.pure rfl)

theorem cellwOf_all (x : Tys.I [.sl (.int .i32), .int .u16]) (h : WfAll [.sl (.int .i32), .int .u16] x) (hb : bulkAll [.sl (.int .i32), .int .u16] x ≤ 1048576) : law07_CellwOf_F x.1 x.2.1 = some true := by
  simp only [bulkAll, bulk] at hb
  exact cellwOf_F _ _ (by omega) (fun n hn => wf_i32 (h.1.2 n hn)) (wf_u16 h.2.1)

end Go.Proofs.Yteldfdpjgpjafaa
