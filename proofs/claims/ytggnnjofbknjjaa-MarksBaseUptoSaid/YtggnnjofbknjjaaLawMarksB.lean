/-
  Marks: each stands behind what it is on.
-/
import Derived.Test.YtggnnjofbknjjaaLawMarks
namespace Go.Proofs.Ytggnnjofbknjjaa
set_option linter.all false

theorem getD_left {xs ys : List Int} {k : Nat} (h : k < xs.length) : (xs ++ ys).getD k 0 = xs.getD k 0 := by simp [List.getD, List.getElem?_append_left h]
theorem getD_right {xs ys : List Int} {k : Nat} (h : xs.length ≤ k) : (xs ++ ys).getD k 0 = ys.getD (k - xs.length) 0 := by simp [List.getD, List.getElem?_append_right h]
theorem getD_rep {n k : Nat} {v : Int} (h : k < n) : (List.replicate n v).getD k 0 = v := by simp [List.getD, h]

/-! ### what stands, and how many marks each has -/
/-- where each begins -/
def off (g : Nat → Nat) : Nat → Nat
  | 0 => 0
  | k + 1 => off g k + g k + 1
theorem off_succ (g : Nat → Nat) (k : Nat) : off g (k + 1) = off g k + g k + 1 := rfl
def csL (g : Nat → Nat) : Nat → List Int
  | 0 => []
  | k + 1 => csL g k ++ 1 :: List.replicate (g k) 8
def wsL (g : Nat → Nat) : Nat → List Int
  | 0 => []
  | k + 1 => wsL g k ++ 1 :: List.replicate (g k) 0
def lvL (g : Nat → Nat) : Nat → List Int
  | 0 => []
  | k + 1 => lvL g k ++ 1 :: List.replicate (g k) 1
def baL (g : Nat → Nat) : Nat → List Int
  | 0 => []
  | k + 1 => baL g k ++ (off g k : Int) :: List.replicate (g k) (off g k : Int)
theorem csL_len (g : Nat → Nat) : ∀ k, (csL g k).length = off g k
  | 0 => rfl
  | k + 1 => by show (csL g k ++ 1 :: List.replicate (g k) 8).length = _; rw [List.length_append, csL_len g k, List.length_cons, List.length_replicate, off_succ]; omega
theorem wsL_len (g : Nat → Nat) : ∀ k, (wsL g k).length = off g k
  | 0 => rfl
  | k + 1 => by show (wsL g k ++ 1 :: List.replicate (g k) 0).length = _; rw [List.length_append, wsL_len g k, List.length_cons, List.length_replicate, off_succ]; omega
theorem lvL_len (g : Nat → Nat) : ∀ k, (lvL g k).length = off g k
  | 0 => rfl
  | k + 1 => by show (lvL g k ++ 1 :: List.replicate (g k) 1).length = _; rw [List.length_append, lvL_len g k, List.length_cons, List.length_replicate, off_succ]; omega
theorem baL_len (g : Nat → Nat) : ∀ k, (baL g k).length = off g k
  | 0 => rfl
  | k + 1 => by show (baL g k ++ (off g k : Int) :: List.replicate (g k) (off g k : Int)).length = _; rw [List.length_append, baL_len g k, List.length_cons, List.length_replicate, off_succ]; omega
/-- what stands at the i-th place of the k-th -/
theorem at_place (g : Nat → Nat) : ∀ (r k i : Nat), k < r → i ≤ g k → off g k + i < off g r ∧ (csL g r).getD (off g k + i) 0 = (if i = 0 then 1 else 8) ∧ (wsL g r).getD (off g k + i) 0 = (if i = 0 then 1 else 0) ∧ (lvL g r).getD (off g k + i) 0 = 1 ∧ (baL g r).getD (off g k + i) 0 = (off g k : Int)
  | 0, k, i, hk, _ => by omega
  | r + 1, k, i, hk, hi => by
    by_cases e : k = r
    · subst e
      refine ⟨by rw [off_succ]; omega, ?_, ?_, ?_, ?_⟩
      · show (csL g k ++ 1 :: List.replicate (g k) 8).getD (off g k + i) 0 = _
        rw [getD_right (by rw [csL_len]; omega), csL_len, Nat.add_sub_cancel_left]
        cases i with
        | zero => rfl
        | succ i => rw [List.getD_cons_succ, getD_rep (by omega), if_neg (by omega)]
      · show (wsL g k ++ 1 :: List.replicate (g k) 0).getD (off g k + i) 0 = _
        rw [getD_right (by rw [wsL_len]; omega), wsL_len, Nat.add_sub_cancel_left]
        cases i with
        | zero => rfl
        | succ i => rw [List.getD_cons_succ, getD_rep (by omega), if_neg (by omega)]
      · show (lvL g k ++ 1 :: List.replicate (g k) 1).getD (off g k + i) 0 = _
        rw [getD_right (by rw [lvL_len]; omega), lvL_len, Nat.add_sub_cancel_left]
        cases i with
        | zero => rfl
        | succ i => rw [List.getD_cons_succ, getD_rep (by omega)]
      · show (baL g k ++ (off g k : Int) :: List.replicate (g k) (off g k : Int)).getD (off g k + i) 0 = _
        rw [getD_right (by rw [baL_len]; omega), baL_len, Nat.add_sub_cancel_left]
        cases i with
        | zero => rfl
        | succ i => rw [List.getD_cons_succ, getD_rep (by omega)]
    · obtain ⟨h1, h2, h3, h4, h5⟩ := at_place g r k i (by omega) hi
      refine ⟨by rw [off_succ]; omega, ?_, ?_, ?_, ?_⟩
      · show (csL g r ++ _).getD _ 0 = _; rw [getD_left (by rw [csL_len]; exact h1), h2]
      · show (wsL g r ++ _).getD _ 0 = _; rw [getD_left (by rw [wsL_len]; exact h1), h3]
      · show (lvL g r ++ _).getD _ 0 = _; rw [getD_left (by rw [lvL_len]; exact h1), h4]
      · show (baL g r ++ _).getD _ 0 = _; rw [getD_left (by rw [baL_len]; exact h1), h5]

/-! ### all turned around -/
/-- so many places, the last one first -/
def dn : Nat → List Int
  | 0 => []
  | m + 1 => (m : Int) :: dn m
theorem dn_len : ∀ m, (dn m).length = m
  | 0 => rfl
  | m + 1 => by show ((m : Int) :: dn m).length = _; rw [List.length_cons, dn_len m]
theorem dn_mem : ∀ m, ∀ x ∈ dn m, 0 ≤ x ∧ x < m
  | 0, x, hx => by cases hx
  | m + 1, x, hx => by
    rcases List.mem_cons.1 hx with rfl | hx
    · omega
    · have := dn_mem m x hx; omega
theorem up_rev (g : Nat → Int) (hg : ∀ k, g k ≠ -1) : ∀ m, (vplaces g m).reverse = dn m
  | 0 => rfl
  | m + 1 => by
    rw [show vplaces g (m + 1) = vplaces g m ++ [(m : Int)] from if_neg (hg m), List.reverse_append, up_rev g hg m]
    rfl
theorem lvL_val (g : Nat → Nat) : ∀ r, ∀ x ∈ lvL g r, x = 1
  | 0, x, hx => by cases hx
  | r + 1, x, hx => by
    rcases List.mem_append.1 hx with hx | hx
    · exact lvL_val g r x hx
    · rcases List.mem_cons.1 hx with rfl | hx
      · rfl
      · exact (List.mem_replicate.1 hx).2
theorem lvL_getD (g : Nat → Nat) (r : Nat) {k : Nat} (h : k < off g r) : (lvL g r).getD k 0 = 1 := by
  have hl := lvL_len g r
  refine lvL_val g r _ ?_
  rw [show (lvL g r).getD k 0 = (lvL g r)[k]'(by omega) by simp [List.getD, show k < (lvL g r).length by omega]]
  exact List.getElem_mem _
theorem tp_one {g : Nat → Int} : ∀ {m : Nat}, (∀ k, k < m → g k = 1) → tp g m = if m = 0 then 0 else 1
  | 0, _ => rfl
  | m + 1, h => by
    rw [show tp g (m + 1) = if g m = -1 then tp g m else if (if 126 < g m then 126 else g m) > tp g m then (if 126 < g m then 126 else g m) else tp g m from rfl, tp_one (m := m) fun k hk => h k (by omega), h m (by omega)]
    by_cases e : m = 0
    · subst e; rfl
    · rw [if_neg e]; rfl
theorem vis_all (g : Nat → Nat) (r : Nat) : vis (lvL g r) = dn (off g r) := by
  have hl := lvL_len g r
  unfold vis
  rw [hl, tp_one (m := off g r) fun k hk => lvL_getD g r hk]
  by_cases e : off g r = 0
  · rw [e]; rfl
  · rw [if_neg e]
    show vl (lvL g r) 1 _ = _
    show rr (at_ (lvL g r) ((0 + 1 : Nat) : Int)) [] _ = _
    have hne : ∀ (h : Nat → Int) m, (∀ k, k < m → h k ≠ -1) → (vplaces h m).reverse = dn m := fun h m => by
      induction m with
      | zero => intro _; rfl
      | succ m ih =>
        intro hh
        rw [show vplaces h (m + 1) = vplaces h m ++ [(m : Int)] from if_neg (hh m (by omega)), List.reverse_append, ih fun k hk => hh k (by omega)]
        rfl
    rw [rr_all, hne _ _ fun k hk => by show (lvL g r).getD k 0 ≠ -1; rw [lvL_getD g r hk]; omega]
    intro x hx
    obtain ⟨k, h1, rfl, _⟩ := (vplaces_mem _ _ x).1 hx
    unfold at_
    rw [show (Int.toNat (k : Int)) = k from rfl, lvL_getD g r h1]
    rfl

/-! ### each with its marks behind it -/
def lin (g : Nat → Nat) (r : Nat) : Li := ⟨lvL g r, csL g r, wsL g r, off g r⟩
theorem lin_mark {g : Nat → Nat} {r k i : Nat} (hk : k < r) (hi : i ≤ g k) : (lin g r).mark ((off g k + i : Nat) : Int) = decide (0 < i) := by
  obtain ⟨h1, h2, h3, h4, _⟩ := at_place g r k i hk hi
  unfold Li.mark Li.lv lin
  dsimp only
  rw [toNat_nat, h2, h3, h4]
  by_cases e : i = 0
  · subst e; rfl
  · rw [if_neg e, if_neg e, show decide (0 < i) = true from decide_eq_true (by omega)]; rfl
theorem lin_lv {g : Nat → Nat} {r k : Nat} (h : k < off g r) : (lin g r).lv (k : Int) = 1 := lvL_getD g r h
/-- the places from one on, in order -/
def us (p : Nat) : Nat → List Int
  | 0 => []
  | n + 1 => us p n ++ [((p + n : Nat) : Int)]
theorem us_len (p : Nat) : ∀ n, (us p n).length = n
  | 0 => rfl
  | n + 1 => by show (us p n ++ [_]).length = _; rw [List.length_append, us_len p n]; rfl
theorem us_get (p : Nat) : ∀ n i, i < n → (us p n).getD i 0 = ((p + i : Nat) : Int)
  | 0, i, h => by omega
  | n + 1, i, h => by
    show (us p n ++ [_]).getD i 0 = _
    by_cases e : i < n
    · rw [getD_left (by rw [us_len]; exact e), us_get p n i e]
    · have : i = n := by omega
      subst this
      rw [getD_right (by rw [us_len]; omega), us_len, Nat.sub_self]
      rfl
/-- all, in turn: the last one first, each with its marks behind it -/
def rest (g : Nat → Nat) : Nat → List Int
  | 0 => []
  | k + 1 => us (off g k) (g k + 1) ++ rest g k
theorem wait {g : Nat → Nat} {r k : Nat} (hk : k < r) : ∀ (n : Nat) (acc B : List Int), n ≤ g k → fx (lin g r).mark (lin g r).lv acc (dn (off g k + 1 + n) ) = fx (lin g r).mark (lin g r).lv (acc ++ (us (off g k + 1) n).reverse) (dn (off g k + 1))
  | 0, acc, _, _ => by simp [us]
  | n + 1, acc, B, h => by
    show fx (lin g r).mark (lin g r).lv acc (((off g k + 1 + n : Nat) : Int) :: dn (off g k + 1 + n)) = _
    have hm : (lin g r).mark ((off g k + 1 + n : Nat) : Int) = true := by
      rw [show off g k + 1 + n = off g k + (n + 1) by omega, lin_mark hk (by omega)]
      exact decide_eq_true (by omega)
    rw [show fx (lin g r).mark (lin g r).lv acc (((off g k + 1 + n : Nat) : Int) :: dn (off g k + 1 + n)) = fx (lin g r).mark (lin g r).lv (acc ++ [((off g k + 1 + n : Nat) : Int)]) (dn (off g k + 1 + n)) from if_pos hm, wait hk n _ B (by omega)]
    congr 1
    show _ = acc ++ (us (off g k + 1) n ++ [((off g k + 1 + n : Nat) : Int)]).reverse
    simp
theorem us_cons (p : Nat) : ∀ n, us p (n + 1) = (p : Int) :: us (p + 1) n
  | 0 => rfl
  | n + 1 => by
    show us p (n + 1) ++ [((p + (n + 1) : Nat) : Int)] = _
    rw [us_cons p n]
    show (p : Int) :: (us (p + 1) n ++ [((p + (n + 1) : Nat) : Int)]) = (p : Int) :: (us (p + 1) n ++ [((p + 1 + n : Nat) : Int)])
    rw [show p + (n + 1) = p + 1 + n by omega]
theorem us_mem (p : Nat) : ∀ n, ∀ x ∈ us p n, ∃ i, i < n ∧ x = ((p + i : Nat) : Int)
  | 0, x, hx => by cases hx
  | n + 1, x, hx => by
    rcases List.mem_append.1 hx with hx | hx
    · obtain ⟨i, h1, h2⟩ := us_mem p n x hx
      exact ⟨i, by omega, h2⟩
    · exact ⟨n, by omega, List.mem_singleton.1 hx⟩
theorem goff_le (g : Nat → Nat) {k : Nat} : ∀ {r : Nat}, k ≤ r → off g k ≤ off g r
  | 0, h => by rw [show k = 0 by omega]; omega
  | r + 1, h => by
    by_cases e : k = r + 1
    · rw [e]; omega
    · have := goff_le g (k := k) (r := r) (by omega)
      rw [off_succ]; omega
theorem fx_dn {g : Nat → Nat} {r : Nat} : ∀ k, k ≤ r → fx (lin g r).mark (lin g r).lv [] (dn (off g k)) = rest g k
  | 0, _ => rfl
  | k + 1, h => by
    have hr := goff_le g h
    rw [off_succ] at hr
    have h1 := wait (g := g) (r := r) (k := k) (by omega) (g k) [] [] (Nat.le_refl _)
    rw [off_succ, show off g k + g k + 1 = off g k + 1 + g k by omega, h1, List.nil_append]
    show fx (lin g r).mark (lin g r).lv (us (off g k + 1) (g k)).reverse ((off g k : Int) :: dn (off g k)) = _
    have hm : (lin g r).mark ((off g k : Nat) : Int) = false := by
      have := lin_mark (g := g) (r := r) (k := k) (i := 0) (by omega) (by omega)
      rw [Nat.add_zero] at this
      rw [this]; rfl
    rw [fx_stop hm, fx_dn k (by omega), if_pos, List.reverse_reverse]
    · show (off g k : Int) :: us (off g k + 1) (g k) ++ rest g k = us (off g k) (g k + 1) ++ rest g k
      rw [us_cons]
    · rw [lin_lv (by omega)]
      have : ∃ j : Nat, j < off g r ∧ ((us (off g k + 1) (g k)).reverse ++ [(off g k : Int)]).headD 0 = (j : Int) := by
        cases hc : (us (off g k + 1) (g k)).reverse with
        | nil => exact ⟨off g k, by omega, rfl⟩
        | cons y s =>
          have : y ∈ us (off g k + 1) (g k) := by
            have : y ∈ (us (off g k + 1) (g k)).reverse := by rw [hc]; simp
            simpa using this
          obtain ⟨i, i1, rfl⟩ := us_mem _ _ y this
          exact ⟨off g k + 1 + i, by omega, rfl⟩
      obtain ⟨j, j1, j2⟩ := this
      rw [j2, lin_lv j1]
theorem rest_len (g : Nat → Nat) : ∀ k, (rest g k).length = off g k
  | 0 => rfl
  | k + 1 => by
    show (us (off g k) (g k + 1) ++ rest g k).length = _
    rw [List.length_append, us_len, rest_len g k, off_succ]; omega
/-- what stands at a place: one of them, or the mark that comes next -/
theorem rest_at (g : Nat → Nat) : ∀ (k t : Nat), t < off g k → ∃ j i : Nat, j < k ∧ i ≤ g j ∧ (rest g k).getD t 0 = ((off g j + i : Nat) : Int) ∧ (0 < i → 0 < t ∧ (rest g k).getD (t - 1) 0 = ((off g j + (i - 1) : Nat) : Int))
  | 0, t, h => by rw [show off g 0 = 0 from rfl] at h; omega
  | k + 1, t, h => by
    rw [off_succ] at h
    show ∃ j i : Nat, j < k + 1 ∧ i ≤ g j ∧ (us (off g k) (g k + 1) ++ rest g k).getD t 0 = ((off g j + i : Nat) : Int) ∧ (0 < i → 0 < t ∧ (us (off g k) (g k + 1) ++ rest g k).getD (t - 1) 0 = ((off g j + (i - 1) : Nat) : Int))
    have hl := us_len (off g k) (g k + 1)
    by_cases e : t < g k + 1
    · refine ⟨k, t, by omega, by omega, by rw [getD_left (by omega), us_get _ _ _ e], fun h0 => ⟨h0, by rw [getD_left (by omega), us_get _ _ _ (by omega)]⟩⟩
    · obtain ⟨j, i, h1, h2, h3, h4⟩ := rest_at g k (t - (g k + 1)) (by omega)
      refine ⟨j, i, by omega, h2, by rw [getD_right (by omega), hl]; exact h3, fun h0 => ?_⟩
      obtain ⟨h5, h6⟩ := h4 h0
      exact ⟨by omega, by rw [getD_right (by omega), hl, show t - 1 - (g k + 1) = t - (g k + 1) - 1 by omega]; exact h6⟩

theorem marksBase_F (ns : List Int) (hn : ns.length ≤ 1048576) (h8 : ∀ n ∈ ns, 0 ≤ n ∧ n ≤ 255) : law26_MarksBase_F ns = some true := by
  unfold law26_MarksBase_F law26_MarksBase_T
  let g : Nat → Nat := fun k => (ns.getD k 0 % 4).toNat
  have g3 : ∀ k, g k ≤ 3 := fun k => by show (ns.getD k 0 % 4).toNat ≤ 3; omega
  obtain ⟨r, r1, r2, r3⟩ : ∃ r : Nat, r ≤ ns.length ∧ r ≤ 30 ∧ (r = ns.length ∨ r = 30) := ⟨min ns.length 30, by omega, by omega, by omega⟩
  have hoff : ∀ k, k ≤ 30 → off g k ≤ 4 * k := fun k => by
    induction k with
    | zero => intro _; exact Nat.le_refl _
    | succ k ih => intro h; have := ih (by omega); have := g3 k; rw [off_succ]; omega
  refine Post.run (Post.bnd awake26 (Post.brF rfl (Post.bnd (count (L := fun s : List Int × List Int × List Int × List Int × List Int × Int => law26_MarksBase_L6 s.1 s.2.1 s.2.2.1 s.2.2.2.1 s.2.2.2.2.1 s.2.2.2.2.2) r
    (fun k => (ns, csL g k, wsL g k, lvL g k, baL g k, ((k : Nat) : Int))) (r := (csL g r, wsL g r, lvL g r, baL g r)) rfl (fun k hk => ?_) ?_) ?_)))
  · dsimp only
    unfold law26_MarksBase_L6
    have ho := hoff k (by omega)
    have l1 := csL_len g k
    have l2 := wsL_len g k
    have l3 := lvL_len g k
    have l4 := baL_len g k
    have hg := g3 k
    have hnk : 0 ≤ ns.getD k 0 ∧ ns.getD k 0 ≤ 255 := h8 _ (by
      rw [show ns.getD k 0 = ns[k]'(by omega) by simp [List.getD, show k < ns.length by omega]]
      exact List.getElem_mem _)
    have hgk : IntKind.i64.wrap ((ns.getD k 0).tmod 4) = (g k : Int) := by
      rw [Int.tmod_eq_emod_of_nonneg hnk.1, wrap64 (by omega) (by omega)]
      show _ = (((ns.getD k 0 % 4).toNat : Nat) : Int)
      omega
    have lens : ∀ {xs : List Int} {a v : Int} {i : Nat}, xs.length = off g k → (xs ++ a :: List.replicate i v).length = off g k + i + 1 := fun {xs a v i} h => by rw [List.length_append, List.length_cons, List.length_replicate, h]; omega
    have more : ∀ {xs : List Int} {a v : Int} {i : Nat}, (xs ++ a :: List.replicate i v) ++ [v] = xs ++ a :: List.replicate (i + 1) v := fun {xs a v i} => by
      rw [List.append_assoc, List.cons_append, ← List.replicate_succ']
    refine Post.brT (decide_eq_true (by omega)) (Post.brT (decide_eq_true (by omega)) ?_)
    refine Post.bnd (app_eq (by simp only [List.length_singleton]; omega)) (Post.bnd (app_eq (by simp only [List.length_singleton]; omega)) (Post.bnd (app_eq (by simp only [List.length_singleton]; omega)) (Post.bnd (app_eq (by simp only [List.length_singleton]; omega)) ?_)))
    refine Post.bnd (count (L := fun s : List Int × List Int × List Int × List Int × List Int × Int × Int × Int => law26_MarksBase_L11 s.1 s.2.1 s.2.2.1 s.2.2.2.1 s.2.2.2.2.1 s.2.2.2.2.2.1 s.2.2.2.2.2.2.1 s.2.2.2.2.2.2.2) (g k)
      (fun i => (ns, csL g k ++ 1 :: List.replicate i 8, wsL g k ++ 1 :: List.replicate i 0, lvL g k ++ 1 :: List.replicate i 1, baL g k ++ (off g k : Int) :: List.replicate i (off g k : Int), (k : Int), (off g k : Int), ((i : Nat) : Int)))
      (r := (ns, csL g (k + 1), wsL g (k + 1), lvL g (k + 1), baL g (k + 1), (k : Int))) (by rw [l1]; rfl) (fun i hi => ?_) ?_) (Post.pure ?_)
    · dsimp only
      unfold law26_MarksBase_L11
      refine Post.idx 0 k rfl (by omega) ?_
      rw [hgk]
      refine Post.brT (decide_eq_true (by omega)) (Post.bnd (app_eq (by rw [lens l1]; simp only [List.length_singleton]; omega)) (Post.bnd (app_eq (by rw [lens l2]; simp only [List.length_singleton]; omega)) (Post.bnd (app_eq (by rw [lens l3]; simp only [List.length_singleton]; omega)) (Post.bnd (app_eq (by rw [lens l4]; simp only [List.length_singleton]; omega)) (Post.pure ?_)))))
      rw [more, more, more, more, wrap_succ (k := i) (by omega)]
    · dsimp only
      unfold law26_MarksBase_L11
      refine Post.idx 0 k rfl (by omega) ?_
      rw [hgk]
      exact Post.brF (decide_eq_false (by omega)) (Post.pure rfl)
    · dsimp only
      rw [wrap_succ (k := k) (by omega)]
  · dsimp only
    unfold law26_MarksBase_L6
    rcases r3 with e | e
    · exact Post.brF (decide_eq_false (by omega)) (Post.pure rfl)
    · exact Post.br (fun _ => Post.brF (decide_eq_false (by omega)) (Post.pure rfl)) (fun _ => Post.pure rfl)
  · dsimp only
    have ho := hoff r r2
    have l1 := csL_len g r
    have l2 := wsL_len g r
    have l3 := lvL_len g r
    have l4 := baL_len g r
    have hfix : marks_Fix_F (dn (off g r)) (lvL g r) (csL g r) (wsL g r) = some (rest g r) := by
      rw [fix_F (n := off g r) (by rw [l1, l2, l3]; simp) (fun x hx => dn_mem _ x hx) (by rw [dn_len]; show off g r ≤ 4194304; omega)]
      exact congrArg some (fx_dn (g := g) (r := r) r (Nat.le_refl _))
    have hv := visual_F (lvL g r) (by omega)
    rw [vis_all] at hv
    have hlr := rest_len g r
    refine Post.bnd hv (Post.bnd hfix (Post.altL (count (L := fun s : List Int × List Int × List Int × Int × Int => law26_MarksBase_L16 s.1 s.2.1 s.2.2.1 s.2.2.2.1 s.2.2.2.2) (off g r)
      (fun t => (csL g r, baL g r, rest g r, (off g r : Int), ((t : Nat) : Int))) (r := Sum.inl (csL g r, rest g r)) (by rw [hlr]; rfl) (fun t ht => ?_) ?_) (Post.pure ?_)))
    · dsimp only
      unfold law26_MarksBase_L16
      obtain ⟨j, i, j1, i1, e1, e2⟩ := rest_at g r t ht
      obtain ⟨a1, a2, _, _, a5⟩ := at_place g r j i j1 i1
      refine Post.brT (decide_eq_true (by omega)) (Post.idx 0 t rfl (by omega) ?_)
      rw [e1]
      refine Post.idx 0 (off g j + i) rfl (by omega) ?_
      rw [a2, wrap_succ (k := t) (by omega)]
      by_cases hi : i = 0
      · rw [if_pos hi]
        exact Post.brF (by decide) (Post.pure rfl)
      · rw [if_neg hi]
        obtain ⟨t0, e3⟩ := e2 (by omega)
        obtain ⟨b1, _, _, _, b5⟩ := at_place g r j (i - 1) j1 (by omega)
        refine Post.brT (by decide) (Post.brF (by simp; omega) (Post.idx 0 (t - 1) (by rw [wrap64 (by omega) (by omega)]; omega) (by omega) ?_))
        rw [e3]
        refine Post.brF ?_ (Post.idx 0 (t - 1) (by rw [wrap64 (by omega) (by omega)]; omega) (by omega) ?_)
        · rw [wrap64 (by omega) (by omega)]
          simp only [bne_eq_false_iff_eq]
          omega
        · rw [e3]
          refine Post.idx 0 (off g j + (i - 1)) rfl (by omega) (Post.idx 0 (off g j + i) rfl (by omega) ?_)
          rw [a5, b5]
          exact Post.brF (by simp) (Post.pure rfl)
    · dsimp only
      unfold law26_MarksBase_L16
      exact Post.brF (decide_eq_false (by omega)) (Post.pure rfl)
    · dsimp only
      rw [hlr, l1]
      simp

theorem marksBase_all (x : Tys.I [.sl (.int .u8)]) (h : WfAll [.sl (.int .u8)] x) (hb : bulkAll [.sl (.int .u8)] x ≤ 1048576) : law26_MarksBase_F x.1 = some true := by
  simp only [bulkAll, bulk] at hb
  exact marksBase_F _ (by omega) (fun n hn => wf_u8 (h.1.2 n hn))

end Go.Proofs.Ytggnnjofbknjjaa
