/-
  The table of linec against the document's.
-/
import Derived.Test.YtdccmpcafcehpaaLawLinec
namespace Go.Proofs.Ytdccmpcafcehpaa
set_option linter.all false

def r3 (x : Int × Int × Int) : List Int := [x.1, x.2.1, x.2.2]
def boundB (t : List (Int × Int × Int)) : Bool := t.all fun x => decide (0 ≤ x.1) && decide (x.2.1 ≤ 1114111) && decide (0 ≤ x.2.2) && decide (x.2.2 ≤ 255)
theorem lines_ref : ref04_Lines_F = some (linecT.map r3) := by kernel_rfl
theorem linecT_bound : boundB linecT = true := by kernel_rfl
theorem linecT_ne : decide (linecT.length ≠ 0) = true := by kernel_rfl
theorem bound_at {t : List (Int × Int × Int)} (hs : sortedB t = true) (h : boundB t = true) {x : Int × Int × Int} (hx : x ∈ t) : 0 ≤ x.1 ∧ x.1 ≤ x.2.1 ∧ x.2.1 ≤ 1114111 ∧ 0 ≤ x.2.2 ∧ x.2.2 ≤ 255 := by
  have h1 := List.all_eq_true.1 h x hx
  simp only [Bool.and_eq_true, decide_eq_true_eq] at h1
  have h2 := (sorted_lt hs).1 x hx
  omega
theorem getD_mem {t : List (Int × Int × Int)} {k : Nat} (hk : k < t.length) : t.getD k (0, 0, 0) ∈ t := by
  simp [List.getD, hk]
theorem get_getD {t : List (Int × Int × Int)} {k : Nat} (hk : k < t.length) : t[k]? = some (t.getD k (0, 0, 0)) := by
  simp [List.getD, hk]
theorem idx_r3 {t : List (Int × Int × Int)} {i : Int} {k : Nat} (h : i = k) (hk : k < t.length) : idx (t.map r3) i = some (r3 (t.getD k (0, 0, 0))) := by
  rw [idx_get h (by rw [List.length_map]; exact hk)]
  simp [List.getD, hk]
def lastOf (t : List (Int × Int × Int)) : Nat → Int
  | 0 => -1
  | k + 1 => (t.getD k (0, 0, 0)).2.1

theorem check_F (t : List (Int × Int × Int)) (hs : sortedB t = true) (hb : boundB t = true) (hn : t.length ≤ 1000000) : trie_Check_F t = some none := by
  unfold trie_Check_F trie_Check_T
  refine Post.run (Post.altL (b := ()) (count (L := fun s : Int × List (Int × Int × Int) × Int × Int => trie_Check_L3 s.1 s.2.1 s.2.2.1 s.2.2.2) t.length (fun k => (lastOf t k, t, (t.length : Int), (k : Int))) rfl (fun k hk => ?_) ?_) (Post.pure rfl))
  · dsimp only
    have hx := bound_at hs hb (getD_mem hk)
    have hl : lastOf t k < (t.getD k (0, 0, 0)).1 := by
      cases k with
      | zero => simp only [lastOf]; omega
      | succ k => exact sorted_idx hs (get_getD (by omega)) (get_getD hk) (Nat.lt_succ_self k)
    rw [show lastOf t (k + 1) = (t.getD k (0, 0, 0)).2.1 from rfl]
    unfold trie_Check_L3
    refine Post.brT (by rw [decide_eq_true_eq]; omega) (Post.idx (0, 0, 0) k rfl hk ?_)
    generalize t.getD k (0, 0, 0) = x at *
    refine Post.bnd (b := x) rfl (Post.brF (by rw [decide_eq_false_iff_not]; omega) (Post.bnd (b := x) rfl (Post.brF (by rw [decide_eq_false_iff_not]; omega) (Post.bnd (b := x) rfl (Post.bnd (b := x) rfl (Post.brF (by rw [decide_eq_false_iff_not]; omega) (Post.bnd (b := x) rfl (Post.brF (by rw [decide_eq_false_iff_not]; omega) (Post.bnd (b := x) rfl (Post.pure ?_))))))))))
    rw [wrap_succ (by omega)]
  · dsimp only
    unfold trie_Check_L3
    exact Post.brF (by simp) (Post.pure rfl)

theorem refFind_F (t : List (Int × Int × Int)) (r o : Int) (hs : sortedB t = true) (hn : t.length ≤ 1000000) : ref04_Find_F (t.map r3) r o = some (finds t r o) := by
  have hloop := loop_ex (L := fun s : List (List Int) × Int × Int × Int => ref04_Find_L2 s.1 s.2.1 s.2.2.1 s.2.2.2)
    (I := fun s => ∃ k : Nat, k ≤ t.length ∧ s = (t.map r3, r, o, (k : Int)) ∧ ∀ i, i < k → ¬ ((t.getD i (0, 0, 0)).1 ≤ r ∧ r ≤ (t.getD i (0, 0, 0)).2.1))
    (m := fun s => t.length - s.2.2.2.toNat) (R := fun z => z = .inl (finds t r o) ∨ z = .inr (finds t r o)) (s0 := (t.map r3, r, o, 0))
    (by
      rintro s ⟨k, hk, rfl, hno⟩
      dsimp only
      unfold ref04_Find_L2
      refine Post.br (fun hc => ?_) (fun hc => Post.pure (.inl ?_))
      · rw [decide_eq_true_eq, List.length_map] at hc
        have hk2 : k < t.length := by omega
        have i0 : ∀ x, idx (r3 x) 0 = some x.1 := fun _ => rfl
        have i1 : ∀ x, idx (r3 x) 1 = some x.2.1 := fun _ => rfl
        have i2 : ∀ x, idx (r3 x) 2 = some x.2.2 := fun _ => rfl
        have next : ¬ ((t.getD k (0, 0, 0)).1 ≤ r ∧ r ≤ (t.getD k (0, 0, 0)).2.1) → (∃ k' : Nat, k' ≤ t.length ∧ (t.map r3, r, o, IntKind.i64.wrap ((k : Int) + 1)) = (t.map r3, r, o, (k' : Int)) ∧ ∀ i, i < k' → ¬ ((t.getD i (0, 0, 0)).1 ≤ r ∧ r ≤ (t.getD i (0, 0, 0)).2.1)) ∧ t.length - (IntKind.i64.wrap ((k : Int) + 1)).toNat < t.length - (k : Int).toNat := fun h => by
          refine ⟨⟨k + 1, hk2, by rw [wrap_succ (by omega)], fun i hi => ?_⟩, by rw [wrap_succ (by omega)]; omega⟩
          by_cases e : i = k
          · subst e; exact h
          · exact hno i (by omega)
        refine Post.bnd (idx_r3 rfl hk2) (Post.bnd (i0 _) (Post.br (fun c1 => ?_) (fun c1 => Post.pure (next ?_))))
        · rw [decide_eq_true_eq] at c1
          refine Post.bnd (idx_r3 rfl hk2) (Post.bnd (i1 _) (Post.br (fun c2 => ?_) (fun c2 => Post.pure (next ?_))))
          · rw [decide_eq_true_eq] at c2
            refine Post.bnd (idx_r3 rfl hk2) (Post.bnd (i2 _) (Post.pure (.inr ?_)))
            exact congrArg Sum.inr (has_uniq hs (.inl ⟨_, getD_mem hk2, c1, c2, rfl⟩) (finds_has hs r o))
          · rw [decide_eq_false_iff_not] at c2
            exact fun h => c2 h.2
        · rw [decide_eq_false_iff_not] at c1
          exact fun h => c1 h.1
      · rw [decide_eq_false_iff_not, List.length_map] at hc
        refine congrArg Sum.inl (has_uniq hs (.inr ⟨rfl, fun x hx => ?_⟩) (finds_has hs r o))
        obtain ⟨i, hi⟩ := List.getElem?_of_mem hx
        have hil : i < t.length := by
          rcases Nat.lt_or_ge i t.length with h | h
          · exact h
          · rw [List.getElem?_eq_none h] at hi; cases hi
        have := hno i (by omega)
        rw [get_getD hil] at hi
        cases hi
        exact this)
    ⟨0, by omega, rfl, fun i hi => by omega⟩
  obtain ⟨z, hz, h | h⟩ := hloop
  · subst h
    exact Post.run (Post.altL hz (Post.pure rfl))
  · subst h
    exact Post.run (Post.altR hz (Post.pure rfl))

theorem finds_bound {t : List (Int × Int × Int)} (hs : sortedB t = true) (hb : boundB t = true) (r o : Int) (ho : 0 ≤ o ∧ o ≤ 255) : 0 ≤ finds t r o ∧ finds t r o ≤ 255 := by
  rcases finds_has hs r o with ⟨x, hx, _, _, h⟩ | ⟨h, _⟩
  · have := bound_at hs hb hx
    omega
  · omega

theorem linecTables_F (k : Int) (hk : 0 ≤ k ∧ k ≤ 65535) : law06_LinecTables_F k = some true := by
  have hl : linecT.length ≤ 1000 := of_decide_eq_true linecT_len
  have hne : linecT.length ≠ 0 := of_decide_eq_true linecT_ne
  unfold law06_LinecTables_F law06_LinecTables_T
  refine Post.run (Post.bnd awake06 (Post.brF (by rfl) (Post.bnd linec_table (Post.bnd lines_ref (Post.brF (by simp) (Post.bnd (check_F _ linecT_sorted linecT_bound (by omega)) (Post.brF (by rfl) (Post.brT (by simpa using hne) ?_))))))))
  have hm0 := Int.emod_nonneg k (b := (linecT.length : Int)) (by omega)
  have hm1 := Int.emod_lt_of_pos k (b := (linecT.length : Int)) (by omega)
  rw [wrap64 (n := k) (by omega) (by omega), Int.tmod_eq_emod_of_nonneg hk.1]
  obtain ⟨q, hq⟩ : ∃ q : Nat, k % (linecT.length : Int) = (q : Int) := ⟨(k % (linecT.length : Int)).toNat, by omega⟩
  rw [hq]
  have hq2 : q < linecT.length := by omega
  have hx := bound_at linecT_sorted linecT_bound (getD_mem hq2)
  have e := idx_getD (i := (q : Int)) ((0, 0, 0) : Int × Int × Int) rfl hq2
  have e2 := idx_r3 (i := (q : Int)) rfl hq2
  generalize linecT.getD q (0, 0, 0) = x at *
  refine Post.bnd e (Post.bnd e2 (Post.bnd (b := x.1) rfl (Post.brT (by rw [wrap64 (by omega) (by omega)]; simp) ?_)))
  refine Post.bnd e (Post.bnd e2 (Post.bnd (b := x.2.1) rfl (Post.brT (by rw [wrap64 (by omega) (by omega)]; simp) ?_)))
  refine Post.bnd e (Post.bnd e2 (Post.bnd (b := x.2.2) rfl (Post.pure (by rw [wrap64 (by omega) (by omega)]; simp))))

theorem line_F (r : Int) (h : -2147483648 ≤ r ∧ r ≤ 2147483647) : ref04_Line_F r = some (lc r) := by
  have hl : linecT.length ≤ 1000 := of_decide_eq_true linecT_len
  have out : ¬ (44032 ≤ r ∧ r ≤ 55203) → Post (Tr.bnd ref04_Lines_F fun c => Tr.bnd (ref04_Find_F c r 0) fun d => Tr.pure d : Tr Int) (· = lc r) := fun hn => by
    rw [lc, if_neg hn]
    exact Post.bnd lines_ref (Post.bnd (refFind_F _ _ _ linecT_sorted (by omega)) (Post.pure rfl))
  unfold ref04_Line_F ref04_Line_T
  refine Post.run (Post.br (fun h1 => Post.br (fun h2 => ?_) (fun h2 => ?_)) (fun h1 => ?_))
  · rw [decide_eq_true_eq] at h1 h2
    have e : lc r = if (r - 44032) % 28 = 0 then 37 else 38 := if_pos ⟨h1, h2⟩
    rw [e, wrap64 (by omega) (by omega), Int.tmod_eq_emod_of_nonneg (by omega)]
    refine Post.br (fun h3 => Post.pure ?_) (fun h3 => Post.pure ?_)
    · rw [if_pos (by simpa using h3)]
    · rw [if_neg (by simpa using h3)]
  · rw [decide_eq_false_iff_not] at h2
    exact out fun h => h2 h.2
  · rw [decide_eq_false_iff_not] at h1
    exact out fun h => h1 h.1

theorem linecOf_F (rs : List Int) (hn : rs.length ≤ 2097152) (h : ∀ n ∈ rs, -2147483648 ≤ n ∧ n ≤ 2147483647) : law06_LinecOf_F rs = some true := by
  have hl : linecT.length ≤ 1000 := of_decide_eq_true linecT_len
  unfold law06_LinecOf_F law06_LinecOf_T
  refine Post.run (Post.bnd awake06 (Post.brF (by rfl) (Post.bnd (linec_of rs (by omega)) (Post.brF (by rw [tab_len]; simp) (Post.altL (b := ()) (count (L := fun s : List Int × List Int × Int => law06_LinecOf_L7 s.1 s.2.1 s.2.2) rs.length (fun k => (rs, tab rs.length fun i => lc (rs.getD i 0), (k : Int))) rfl (fun k hk => ?_) ?_) (Post.pure rfl))))))
  · dsimp only
    have hm := h (rs.getD k 0) (by simp [List.getD, hk])
    have hf := lc_le (rs.getD k 0)
    unfold law06_LinecOf_L7
    refine Post.brT (by rw [decide_eq_true_eq]; omega) (ptab k rfl hk (Post.idx 0 k rfl hk ?_))
    rw [wrap64 (n := rs.getD k 0) (by omega) (by omega), wrap_succ (by omega)]
    refine Post.bnd (line_F _ hm) (Post.brF ?_ (Post.pure rfl))
    rw [wrap64 (by omega) (by omega)]
    simp
  · dsimp only
    unfold law06_LinecOf_L7
    exact Post.brF (by simp) (Post.pure rfl)

theorem append_getD {a b : List Int} {k : Nat} (d : Int) : (a ++ b).getD k d = if k < a.length then a.getD k d else b.getD (k - a.length) d := by
  by_cases h : k < a.length
  · rw [if_pos h, List.getD_eq_getElem?_getD, List.getElem?_append_left h, ← List.getD_eq_getElem?_getD]
  · rw [if_neg h, List.getD_eq_getElem?_getD, List.getElem?_append_right (by omega), ← List.getD_eq_getElem?_getD]

theorem linecParts_F (a b : List Int) (ha : a.length ≤ 2097152) (hb : b.length ≤ 2097152) : law06_LinecParts_F a b = some true := by
  unfold law06_LinecParts_F law06_LinecParts_T
  have hab : (a ++ b).length = a.length + b.length := by simp
  refine Post.run (Post.bnd awake06 (Post.brF rfl (Post.bnd (app_eq (by simp; omega)) (Post.bnd (app_eq (by simp; omega)) ?_))))
  rw [List.nil_append]
  refine Post.bnd (linec_of a (by omega)) (Post.bnd (linec_of b (by omega)) (Post.bnd (linec_of (a ++ b) (by omega)) (Post.brF (by simp [tab_len]) (Post.brF (by simp [tab_len]) (Post.brF (by simp [tab_len]) (Post.altL (b := ()) ?_ (Post.pure rfl)))))))
  rw [tab_len]
  refine count (L := fun s : List Int × List Int × List Int × Int × Int => law06_LinecParts_L10 s.1 s.2.1 s.2.2.1 s.2.2.2.1 s.2.2.2.2) (a ++ b).length
    (fun k => (tab a.length fun i => lc (a.getD i 0), tab b.length fun i => lc (b.getD i 0), tab (a ++ b).length fun i => lc ((a ++ b).getD i 0), ((a ++ b).length : Int), (k : Int))) rfl (fun k hk => ?_) ?_
  · dsimp only
    unfold law06_LinecParts_L10
    have hadd : IntKind.i64.wrap ((k : Int) + 1) = ((k + 1 : Nat) : Int) := by rw [wrap64 (by omega) (by omega)]; omega
    rw [hadd, tab_len]
    refine Post.brT (decide_eq_true (by omega)) (Post.idx 0 k rfl (by rw [tab_len]; exact hk) ?_)
    rw [tab_getD _ _ hk]
    have hm := lc_le ((a ++ b).getD k 0)
    refine Post.brF (decide_eq_false (by omega)) (Post.br (fun h => ?_) (fun h => ?_))
    · have h : k < a.length := by simpa using h
      refine Post.idx 0 k rfl (by rw [tab_len]; exact h) ?_
      rw [tab_getD _ _ h, append_getD, if_pos h]
      exact Post.brF (by simp) (Post.brF (by simp; omega) (Post.pure rfl))
    · have h : ¬ k < a.length := by simpa using h
      refine Post.brT (by simp; omega) (Post.idx 0 (k - a.length) (by rw [wrap64 (by omega) (by omega)]; omega) (by rw [tab_len]; omega) ?_)
      rw [tab_getD _ _ (by omega), append_getD, if_neg h]
      exact Post.brF (by simp) (Post.pure rfl)
  · dsimp only
    unfold law06_LinecParts_L10
    exact Post.brF (by simp) (Post.pure rfl)


theorem linecTables_all (x : Tys.I [.int .u16]) (h : WfAll [.int .u16] x) : law06_LinecTables_F x.1 = some true := linecTables_F _ (wf_u16 h.1)
theorem linecOf_all (x : Tys.I [.sl (.int .i32)]) (h : WfAll [.sl (.int .i32)] x) (hb : bulkAll [.sl (.int .i32)] x ≤ 1048576) : law06_LinecOf_F x.1 = some true := by
  simp only [bulkAll, bulk] at hb
  exact linecOf_F _ (by omega) (fun n hn => wf_i32 (h.1.2 n hn))
theorem linecParts_all (x : Tys.I [.sl (.int .i32), .sl (.int .i32)]) (_h : WfAll [.sl (.int .i32), .sl (.int .i32)] x) (hb : bulkAll [.sl (.int .i32), .sl (.int .i32)] x ≤ 1048576) : law06_LinecParts_F x.1 x.2.1 = some true := by
  simp only [bulkAll, bulk] at hb
  exact linecParts_F _ _ (by omega) (by omega)

end Go.Proofs.Ytdccmpcafcehpaa
