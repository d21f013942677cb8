/-
  What is kept from unit to unit; the statuses of all boundaries; the laws that ask no reference.
-/
import Derived.Test.YtgkoijnjoellgaaLawLbr
namespace Go.Proofs.Ytgkoijnjoellgaa
set_option linter.all false

/-! ### what is told of the units ahead of a place -/
def sol (f : Nat → Int) : Nat → Int
  | 0 => 9
  | k + 1 => if f k = 9 then sol f k else f k
def num (f : Nat → Int) : Nat → Bool
  | 0 => false
  | k + 1 => f k == 27 || (num f k && (f k == 26 || f k == 25))
def clo (f : Nat → Int) : Nat → Bool
  | 0 => false
  | k + 1 => num f k && (f k == 19 || f k == 20)
def oddb (f : Nat → Int) : Nat → Bool
  | 0 => false
  | k + 1 => f k == 33 && !oddb f k
def lst (f : Nat → Int) : Nat → Int
  | 0 => 0
  | k + 1 => f k
def bef (f : Nat → Int) : Nat → Int
  | 0 => 0
  | k + 1 => lst f k
def joi (g : Nat → Bool) : Nat → Bool
  | 0 => false
  | k + 1 => g k
def pst (f : Nat → Int) (g : Nat → Bool) (k : Nat) : Past := (lst f k, bef f k, sol f k, joi g k, num f k, clo f k, oddb f k)
def fol (f : Nat → Int) (n k : Nat) : Int := if k + 1 < n then f (k + 1) else 0
noncomputable def sts (f : Nat → Int) (g : Nat → Bool) (n k : Nat) : Int := if k = 0 then 0 else stat (pst f g k) (f k) (fol f n k)

theorem add_F (a b s : Int) (j nu cl od : Bool) (u : Int × Int × Int × Bool) : lbrule_past_add_F (a, b, s, j, nu, cl, od) u = some ((u.2.2.1, a, (if u.2.2.1 = 9 then s else u.2.2.1), u.2.2.2, (u.2.2.1 == 27 || (nu && (u.2.2.1 == 26 || u.2.2.1 == 25))), (nu && (u.2.2.1 == 19 || u.2.2.1 == 20)), (u.2.2.1 == 33 && !od)), ()) := by
  obtain ⟨x, y, c, jj⟩ := u
  unfold lbrule_past_add_F lbrule_past_add_T
  by_cases h : c = 9
  · subst h
    simp only [run_box, Tr.run_br, Tr.run_pure, Tr.run_bnd', ite_some, ite_pair, ite_bool]
    cases nu <;> cases od <;> rfl
  · have hc : (c != 9) = true := by simpa using h
    simp only [run_box, Tr.run_br, Tr.run_pure, Tr.run_bnd', ite_some, ite_pair, ite_bool, hc, if_true, if_neg h]
    cases nu <;> cases od <;> cases c == 27 <;> cases c == 26 <;> cases c == 25 <;> cases c == 19 <;> cases c == 20 <;> cases c == 33 <;> rfl

abbrev Unt := Int × Int × Int × Bool
@[reducible] def uz : Unt := (0, 0, 0, false)
@[reducible] def ucl (us : List Unt) (k : Nat) : Int := (us.getD k uz).2.2.1
@[reducible] def ujo (us : List Unt) (k : Nat) : Bool := (us.getD k uz).2.2.2

theorem add_pst (us : List Unt) (k : Nat) : lbrule_past_add_F (pst (ucl us) (ujo us) k) (us.getD k uz) = some (pst (ucl us) (ujo us) (k + 1), ()) := by
  unfold pst
  rw [add_F]
  rfl
theorem following_F (us : List Unt) (k : Nat) (hn : us.length ≤ 4194304) (hk : k < us.length) : lbrule_following_F us (k : Int) = some (fol (ucl us) us.length k) := by
  unfold lbrule_following_F lbrule_following_T fol
  rw [wrap_succ (by omega)]
  by_cases h : k + 1 < us.length
  · rw [if_pos h]
    exact Post.run (Post.brT (by rw [decide_eq_true_eq]; omega) (Post.idx uz (k + 1) rfl h (Post.pure rfl)))
  · rw [if_neg h]
    exact Post.run (Post.brF (by rw [decide_eq_false_iff_not]; omega) (Post.pure rfl))
theorem between_F (us : List Unt) (hn : us.length ≤ 4194304) : lbrule_Between_F us = some (tab us.length (sts (ucl us) (ujo us) us.length)) := by
  unfold lbrule_Between_F lbrule_Between_T
  refine Post.run (Post.bnd (mk_eq rfl (by omega)) (Post.bnd (count (L := fun s : List Unt × List Int × Past × List Unt × Int × Int => lbrule_Between_L4 s.1 s.2.1 s.2.2.1 s.2.2.2.1 s.2.2.2.2.1 s.2.2.2.2.2) us.length (fun k => (us, tab us.length (part (sts (ucl us) (ujo us) us.length) (fun _ => 0) k), pst (ucl us) (ujo us) k, us, (us.length : Int), (k : Int))) (r := tab us.length (sts (ucl us) (ujo us) us.length)) ?_ (fun k hk => ?_) ?_) (Post.pure rfl)))
  · rw [tab_rep, part_zero]
    rfl
  · dsimp only
    unfold lbrule_Between_L4
    rw [wrap_succ (by omega)]
    refine Post.brT (by rw [decide_eq_true_eq]; omega) (Post.idx uz k rfl hk ?_)
    by_cases h : k = 0
    · subst h
      refine Post.brF (by simp) (post_box (post_box (Post.bnd (add_pst us 0) (Post.pure ?_))))
      have e : tab us.length (part (sts (ucl us) (ujo us) us.length) (fun _ => (0 : Int)) 0) = tab us.length (part (sts (ucl us) (ujo us) us.length) (fun _ => (0 : Int)) (0 + 1)) := part_keep us.length rfl
      exact congrArg (fun x => Lap.next (us, x, pst (ucl us) (ujo us) (0 + 1), us, (us.length : Int), ((0 + 1 : Nat) : Int))) e
    · refine Post.brT (by rw [decide_eq_true_eq]; omega) (post_box (Post.bnd (following_F us k hn hk) (post_box ?_)))
      have hs := status_F (lst (ucl us) k) (bef (ucl us) k) (sol (ucl us) k) (joi (ujo us) k) (num (ucl us) k) (clo (ucl us) k) (oddb (ucl us) k) (ucl us k) (fol (ucl us) us.length k)
      refine Post.bnd hs (Post.idx 0 k rfl (by rw [tab_len]; exact hk) (post_box (post_box (Post.bnd (add_pst us k) (Post.pure ?_)))))
      have e : (tab us.length (part (sts (ucl us) (ujo us) us.length) (fun _ => (0 : Int)) k)).set k (stat (pst (ucl us) (ujo us) k) (ucl us k) (fol (ucl us) us.length k)) = tab us.length (part (sts (ucl us) (ujo us) us.length) (fun _ => (0 : Int)) (k + 1)) := part_set us.length (if_neg h)
      exact congrArg (fun x => Lap.next (us, x, pst (ucl us) (ujo us) (k + 1), us, (us.length : Int), ((k + 1 : Nat) : Int))) e
  · dsimp only
    unfold lbrule_Between_L4
    exact Post.brF (by simp) (Post.pure (by rw [part_end]))

theorem are_F (a : List Int) (hn : a.length ≤ 4194304) : law20_are_F a a = some true := by
  unfold law20_are_F law20_are_T
  refine Post.run (Post.brF (by simp) (Post.altL (b := ()) (count (L := fun s : List Int × List Int × Int => law20_are_L4 s.1 s.2.1 s.2.2) a.length (fun k => (a, a, (k : Int))) rfl (fun k hk => ?_) ?_) (Post.pure rfl)))
  · dsimp only
    unfold law20_are_L4
    refine Post.brT (by rw [decide_eq_true_eq]; omega) (Post.idx 0 k rfl hk (Post.idx 0 k rfl hk (Post.brF (by simp) (Post.pure (by rw [wrap_succ (by omega)])))))
  · dsimp only
    unfold law20_are_L4
    exact Post.brF (by simp) (Post.pure rfl)

/-- units of some classes -/
@[reducible] def unitAt (cs : List Int) (k : Nat) : Unt := ((k : Int), ((k + 1 : Nat) : Int), cs.getD k 0, false)
theorem of_F (cs : List Int) (hn : cs.length ≤ 4194304) : law20_of_F cs = some (tab cs.length (unitAt cs)) := by
  unfold law20_of_F law20_of_T
  refine Post.run (Post.bnd (count (L := fun s : List Unt × List Int × Int × Int => law20_of_L3 s.1 s.2.1 s.2.2.1 s.2.2.2) cs.length (fun k => (tab k (unitAt cs), cs, (cs.length : Int), (k : Int))) rfl (fun k hk => ?_) ?_) (Post.pure rfl))
  · dsimp only
    unfold law20_of_L3
    rw [wrap_succ (by omega)]
    refine Post.brT (by rw [decide_eq_true_eq]; omega) (Post.idx 0 k rfl hk (Post.bnd (app_eq (by rw [tab_len]; simp; omega)) (Post.pure ?_)))
    rw [← tab_succ]
  · dsimp only
    unfold law20_of_L3
    exact Post.brF (by simp) (Post.pure rfl)

/-! ### what the statuses hang on -/
theorem pst_congr {f f' : Nat → Int} {g g' : Nat → Bool} : ∀ {k : Nat}, (∀ i, i < k → f i = f' i) → (∀ i, i < k → g i = g' i) → pst f g k = pst f' g' k ∧ lst f k = lst f' k
  | 0, _, _ => ⟨rfl, rfl⟩
  | k + 1, h, hg => by
    obtain ⟨h1, h2⟩ := pst_congr (k := k) (fun i hi => h i (by omega)) (fun i hi => hg i (by omega))
    have e := h k (by omega)
    have eg := hg k (by omega)
    simp only [pst, Prod.mk.injEq] at h1
    obtain ⟨_, _, h3, _, h4, _, h5⟩ := h1
    have l1 : ∀ (f : Nat → Int) (k : Nat), lst f (k + 1) = f k := fun _ _ => rfl
    have b1 : ∀ (f : Nat → Int) (k : Nat), bef f (k + 1) = lst f k := fun _ _ => rfl
    refine ⟨?_, by rw [l1, l1, e]⟩
    simp only [pst, l1, b1, sol, joi, num, clo, oddb, e, eg, h2, h3, h4, h5]
theorem sts_congr {f f' : Nat → Int} {g g' : Nat → Bool} {n n' k : Nat} (h : ∀ i, i ≤ k + 1 → f i = f' i) (hg : ∀ i, i < k → g i = g' i) (hn : k + 1 < n) (hn' : k + 1 < n') : sts f g n k = sts f' g' n' k := by
  unfold sts fol
  rw [(pst_congr (fun i hi => h i (by omega)) hg).1, h k (by omega), if_pos hn, if_pos hn', h (k + 1) (by omega)]
theorem stat_congr {a b b' s s' c n : Int} {j nu cl od : Bool} (hb : (b == 2) = (b' == 2)) (hs : s = s' ∨ (s = 5 ∧ s' = 9)) : stat (a, b, s, j, nu, cl, od) c n = stat (a, b', s', j, nu, cl, od) c n := by
  unfold stat
  dsimp only
  rw [hb]
  rcases hs with rfl | ⟨rfl, rfl⟩
  · rfl
  · congr 1
    unfold early
    have : Sp 5 c ↔ Sp 9 c := by unfold Sp; omega
    simp only [this]
    rfl

/-! ### classes -/
theorem classes_F (ns : List Int) (hn : ns.length ≤ 2097152) (h8 : ∀ n ∈ ns, 0 ≤ n ∧ n ≤ 255) : law19_Classes_F ns = some (tab ns.length fun i => ns.getD i 0 % 43) := by
  unfold law19_Classes_F law19_Classes_T
  refine Post.run (Post.bnd (count (L := fun s : List Int × List Int × Int => law19_Classes_L3 s.1 s.2.1 s.2.2) ns.length (fun k => (ns, tab k fun i => ns.getD i 0 % 43, (k : Int))) rfl (fun k hk => ?_) ?_) (Post.pure rfl))
  · have hm : 0 ≤ ns.getD k 0 ∧ ns.getD k 0 ≤ 255 := by
      refine h8 _ ?_
      simp [List.getD, hk]
    dsimp only
    unfold law19_Classes_L3
    refine Post.brT (by rw [decide_eq_true_eq]; omega) (Post.idx 0 k rfl hk (Post.bnd (app_eq (by rw [tab_len]; simp; omega)) (Post.pure ?_)))
    rw [Int.tmod_eq_emod_of_nonneg hm.1, wrap_succ (by omega), ← tab_succ]
  · dsimp only
    unfold law19_Classes_L3
    exact Post.brF (by simp) (Post.pure rfl)
def Cls (cs : List Int) : Prop := ∀ k, 0 ≤ cs.getD k 0 ∧ cs.getD k 0 ≤ 42
theorem classes_ok (ns : List Int) : Cls (tab ns.length fun i => ns.getD i 0 % 43) := by
  intro k
  by_cases h : k < ns.length
  · rw [tab_getD _ _ h]
    omega
  · rw [getD_len (by rw [tab_len]; omega)]
    omega

/-! ### the classes of units -/
theorem ucl_tab (cs : List Int) (k : Nat) : ucl (tab cs.length (unitAt cs)) k = cs.getD k 0 := by
  unfold ucl
  by_cases h : k < cs.length
  · rw [tab_getD _ _ h]
  · rw [getD_len (by rw [tab_len]; omega), getD_len (by omega)]
theorem ujo_tab (cs : List Int) (k : Nat) : ujo (tab cs.length (unitAt cs)) k = false := by
  unfold ujo
  by_cases h : k < cs.length
  · rw [tab_getD _ _ h]
  · rw [getD_len (by rw [tab_len]; omega)]
@[reducible] noncomputable def plainS (cs : List Int) (k : Nat) : Int := sts (fun i => cs.getD i 0) (fun _ => false) cs.length k
theorem between_of (cs : List Int) (hn : cs.length ≤ 4194304) : lbrule_Between_F (tab cs.length (unitAt cs)) = some (tab cs.length (plainS cs)) := by
  rw [between_F _ (by rw [tab_len]; exact hn), tab_len]
  rw [show ucl (tab cs.length (unitAt cs)) = fun i => cs.getD i 0 from funext (ucl_tab cs), show ujo (tab cs.length (unitAt cs)) = fun _ => false from funext (ujo_tab cs)]

/-! ### the document's examples -/
theorem plain3 (x y z : Int) {u v : Int} (h1 : stat (x, 0, (if x = 9 then 9 else x), false, x == 27, false, x == 33) y z = u) (h2 : stat (y, x, (if y = 9 then (if x = 9 then 9 else x) else y), false, y == 27 || (x == 27 && (y == 26 || y == 25)), x == 27 && (y == 19 || y == 20), y == 33 && !(x == 33)) z 0 = v) : lbrule_Between_F (tab [x, y, z].length (unitAt [x, y, z])) = some [0, u, v] := by
  rw [between_of _ (by simp)]
  show some [plainS [x, y, z] 0, plainS [x, y, z] 1, plainS [x, y, z] 2] = _
  have e1 : plainS [x, y, z] 1 = u := by
    rw [← h1]
    simp [plainS, sts, pst, lst, bef, sol, joi, num, clo, oddb, fol]
  have e2 : plainS [x, y, z] 2 = v := by
    rw [← h2]
    simp [plainS, sts, pst, lst, bef, sol, joi, num, clo, oddb, fol]
  rw [e1, e2]
  rfl
theorem kept_eq (a b c n : Int) {v : Bool} (h : lbrule_past_kept_F (a, b, 0, false, false, false, false) c n = some ((a, b, 0, false, false, false, false), v)) : keptB a c (b == 2) (n == 27) = v := by
  have := kept_F a b 0 (false, false, false, false) c n
  rw [h] at this
  simpa using this.symm
theorem stat_early {p : Past} {c n v : Int} (h : early p.1 c p.2.2.1 p.2.2.2.1 = v) (hv : v ≠ 3) : stat p c n = v := by
  unfold stat
  rw [h]
  exact if_neg hv
theorem stat_late {a b s c n : Int} {j nu cl od k : Bool} (h : early a c s j = 3) (hk : keptB a c (b == 2) (n == 27) = k) : stat (a, b, s, j, nu, cl, od) c n = if (countedB c nu cl od || k) = true then 0 else 1 := by
  unfold stat
  dsimp only
  rw [h, hk]
  rfl
theorem awake20 : law20_awake_F = some true := by
  unfold law20_awake_F law20_awake_T
  have hof := fun cs (h : cs.length ≤ 4194304) => of_F cs h
  have b1 := plain3 1 9 1 (u := 0) (v := 1) (stat_early (by decide) (by decide)) (stat_early (by decide) (by decide))
  have b2 := plain3 6 7 1 (u := 0) (v := 2) (stat_early (by decide) (by decide)) (stat_early (by decide) (by decide))
  have b3 := plain3 33 33 33 (u := 0) (v := 1) ((stat_late (by decide) (k := false) (kept_eq 33 0 33 33 (by kernel_rfl))).trans (by decide)) ((stat_late (by decide) (k := false) (kept_eq 33 33 33 0 (by kernel_rfl))).trans (by decide))
  have b4 := plain3 29 21 27 (u := 0) (v := 0) ((stat_late (by decide) (k := true) (kept_eq 29 0 21 27 (by kernel_rfl))).trans (by decide)) (stat_early (by decide) (by decide))
  have b5 := plain3 22 9 21 (u := 0) (v := 0) (stat_early (by decide) (by decide)) (stat_early (by decide) (by decide))
  refine Post.run (Post.bnd (hof [1, 9, 1] (by simp)) (Post.bnd b1 (Post.bnd (are_F [0, 0, 1] (by simp)) (Post.brT rfl ?_))))
  refine (Post.bnd (hof [6, 7, 1] (by simp)) (Post.bnd b2 (Post.bnd (are_F [0, 0, 2] (by simp)) (Post.brT rfl ?_))))
  refine (Post.bnd (hof [33, 33, 33] (by simp)) (Post.bnd b3 (Post.bnd (are_F [0, 0, 1] (by simp)) (Post.brT rfl ?_))))
  refine (Post.bnd (hof [29, 21, 27] (by simp)) (Post.bnd b4 (Post.bnd (are_F [0, 0, 0] (by simp)) (Post.brT rfl ?_))))
  exact (Post.bnd (hof [22, 9, 21] (by simp)) (Post.bnd b5 (Post.bnd (are_F [0, 0, 0] (by simp)) (Post.pure rfl))))

/-! ### where a line must be broken -/
theorem stat_ends (p : Past) (c n : Int) : (stat p c n = 2 ↔ (p.1 = 5 ∨ p.1 = 7 ∨ p.1 = 8 ∨ (p.1 = 6 ∧ c ≠ 7))) ∧ (c = 9 → stat p c n ≠ 2 → stat p c n = 0) := by
  unfold stat
  obtain ⟨a, b, s, j, nu, cl, od⟩ := p
  dsimp only
  generalize (countedB c nu cl od || keptB a c (b == 2) (n == 27)) = l
  have hl : ∀ e : Int, e = 0 ∨ e = 1 ∨ e = 2 → fin e l = e := fun e h => if_neg (by omega)
  have h3 : fin 3 l = 0 ∨ fin 3 l = 1 := by cases l <;> simp [fin]
  unfold early
  by_cases h1 : a = 6 ∧ c = 7
  · rw [if_pos h1, hl 0 (by omega)]
    omega
  · rw [if_neg h1]
    by_cases h2 : En a
    · rw [if_pos h2, hl 2 (by omega)]
      unfold En at h2
      omega
    · rw [if_neg h2]
      have h2' : ¬ (a = 5 ∨ a = 6 ∨ a = 7 ∨ a = 8) := h2
      have key : ∀ e : Int, e = 0 ∨ e = 1 ∨ e = 3 → fin e l = 0 ∨ fin e l = 1 := by
        rintro e (rfl | rfl | rfl)
        · left; exact hl 0 (by omega)
        · right; exact hl 1 (by omega)
        · exact h3
      by_cases h4 : En c ∨ c = 9 ∨ c = 10
      · rw [if_pos h4, hl 0 (by omega)]
        omega
      · rw [if_neg h4]
        have hc : c ≠ 9 := by omega
        have := key (if s = 10 then 1 else if j = true then 0 else if Gl a c then 0 else if Sp s c then 0 else if a = 9 then 1 else if c = 22 ∨ a = 22 then 0 else if c = 13 ∨ a = 13 then 1 else 3) (by
          repeat' split
          all_goals omega)
        omega
end Go.Proofs.Ytgkoijnjoellgaa
