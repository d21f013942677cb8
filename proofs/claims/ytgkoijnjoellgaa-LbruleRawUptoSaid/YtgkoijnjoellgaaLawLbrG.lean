/-
  The status of each boundary is that of the first of the document's rules that fits.
-/
import Derived.Test.YtgkoijnjoellgaaLawLbrF
namespace Go.Proofs.Ytgkoijnjoellgaa
set_option linter.all false

def Cl (us : List Unt) : Prop := ∀ i, 0 ≤ ucl us i ∧ ucl us i ≤ 42
theorem want_F (us : List Unt) (hn : us.length ≤ 2097152) (hc : Cl us) : law20_Want_F us = some (tab us.length (sts (ucl us) (ujo us) us.length)) := by
  unfold law20_Want_F law20_Want_T
  have h1 : loopW (fun s : List (Int × Bool) × List Unt × Int × Int => (law20_Want_L3 s.1 s.2.1 s.2.2.1 s.2.2.2).run) ([], us, (us.length : Int), 0) = some (tab us.length fun i => (ucl us i, ujo us i)) := by
    refine count (L := fun s : List (Int × Bool) × List Unt × Int × Int => law20_Want_L3 s.1 s.2.1 s.2.2.1 s.2.2.2) us.length (fun k => (tab k fun i => (ucl us i, ujo us i), us, (us.length : Int), (k : Int))) rfl (fun k hk => ?_) ?_
    · dsimp only
      unfold law20_Want_L3
      have hb : 0 ≤ (us.getD k uz).2.2.1 ∧ (us.getD k uz).2.2.1 ≤ 42 := hc k
      refine Post.brT (by rw [decide_eq_true_eq]; omega) (Post.idx uz k rfl hk (post_box (post_box (Post.bnd (app_eq (by rw [tab_len]; simp; omega)) (Post.pure ?_)))))
      rw [wrap_succ (by omega), show IntKind.i64.wrap (us.getD k uz).2.2.1 = ucl us k from wrap64 (by omega) (by omega), ← tab_succ]
    · dsimp only
      unfold law20_Want_L3
      exact Post.brF (by simp) (Post.pure rfl)
  refine Post.run (Post.bnd h1 ?_)
  have hl : (tab us.length fun i => (ucl us i, ujo us i)).length = us.length := tab_len _ _
  have hr : rcl (tab us.length fun i => (ucl us i, ujo us i)) = ucl us := funext fun i => by
    by_cases h : i < us.length
    · unfold rcl; rw [tab_getD _ _ h]
    · unfold rcl ucl; rw [getD_len (by rw [tab_len]; omega), getD_len (by omega)]
  have hj : (fun i => ((tab us.length fun i => (ucl us i, ujo us i)).getD i rz).2) = ujo us := funext fun i => by
    by_cases h : i < us.length
    · rw [tab_getD _ _ h]
    · unfold ujo; rw [getD_len (by rw [tab_len]; omega), getD_len (by omega)]
  have hs := fun k hk => status_eq (tab us.length fun i => (ucl us i, ujo us i)) us.length k hl (by omega) hk (by rw [hr]; exact hc)
  rw [hr, hj] at hs
  generalize (tab us.length fun i => (ucl us i, ujo us i)) = l at *
  rw [hl]
  refine Post.bnd (count (L := fun s : List (Int × Bool) × List Int × Int × Int => law20_Want_L9 s.1 s.2.1 s.2.2.1 s.2.2.2) us.length (fun k => (l, tab k (sts (ucl us) (ujo us) us.length), (us.length : Int), (k : Int))) rfl (fun k hk => ?_) ?_) (Post.pure rfl)
  · dsimp only
    unfold law20_Want_L9
    refine Post.brT (by rw [decide_eq_true_eq]; omega) (Post.bnd (hs k hk) (Post.bnd (app_eq (by rw [tab_len]; simp; omega)) (Post.pure ?_)))
    rw [wrap_succ (by omega), ← tab_succ]
  · dsimp only
    unfold law20_Want_L9
    exact Post.brF (by simp) (Post.pure rfl)
theorem both_F (us : List Unt) (hn : us.length ≤ 2097152) (hc : Cl us) {Q : Bool → Prop} (h : Q true) : Post (.bnd (lbrule_Between_F us) fun c_4 => .bnd (law20_Want_F us) fun c_5 => .bnd (law20_are_F c_4 c_5) fun c_6 => .pure c_6) Q :=
  Post.bnd (between_F us (by omega)) (Post.bnd (want_F us hn hc) (Post.bnd (are_F _ (by rw [tab_len]; omega)) (Post.pure h)))

theorem getD_set (us : List Unt) (k i : Nat) (v : Unt) (hk : k < us.length) : (us.set k v).getD i uz = if i = k then v else us.getD i uz := by
  unfold List.getD
  rw [List.getElem?_set]
  by_cases h : i = k
  · subst h
    rw [if_pos rfl, if_pos hk, if_pos rfl]
    rfl
  · rw [if_neg (fun e => h e.symm), if_neg h]
theorem cl_set {us : List Unt} {k : Nat} {v : Unt} (hk : k < us.length) (h : Cl us) (hv : 0 ≤ v.2.2.1 ∧ v.2.2.1 ≤ 42) : Cl (us.set k v) := fun i => by
  unfold ucl
  rw [getD_set us k i v hk]
  split
  · exact hv
  · exact h i
theorem cl_app {us : List Unt} {v : Unt} (h : Cl us) (hv : 0 ≤ v.2.2.1 ∧ v.2.2.1 ≤ 42) : Cl (us ++ [v]) := fun i => by
  unfold ucl
  rcases Nat.lt_trichotomy i us.length with hi | hi | hi
  · have : (us ++ [v]).getD i uz = us.getD i uz := by simp [List.getD, List.getElem?_append_left hi]
    rw [this]
    exact h i
  · have : (us ++ [v]).getD i uz = v := by subst hi; simp [List.getD]
    rw [this]
    exact hv
  · rw [getD_len (by simp; omega)]
    decide

/-! ### LbruleRaw -/
theorem lbruleRaw_true (ns : List Int) (js : List Bool) (hn : ns.length + js.length ≤ 2097152) (h8 : ∀ n ∈ ns, 0 ≤ n ∧ n ≤ 255) : law20_LbruleRaw_F ns js = some true := by
  unfold law20_LbruleRaw_F law20_LbruleRaw_T
  have hc := classes_F ns (by omega) h8
  have hl : (tab ns.length fun i => ns.getD i 0 % 43).length = ns.length := tab_len _ _
  have hcl : Cls (tab ns.length fun i => ns.getD i 0 % 43) := classes_ok ns
  generalize (tab ns.length fun i => ns.getD i 0 % 43) = cs at *
  refine Post.run (Post.bnd awake20 (Post.brF rfl (Post.bnd hc (Post.bnd (of_F cs (by omega)) ?_))))
  refine Post.loop (L := fun s : List Bool × List Unt × Int => law20_LbruleRaw_L5 s.1 s.2.1 s.2.2) (R := fun us => us.length = cs.length ∧ Cl us) (fun s => ∃ (k : Nat) (us : List Unt), k ≤ cs.length ∧ s = (js, us, (k : Int)) ∧ us.length = cs.length ∧ Cl us) (fun s => cs.length - s.2.2.toNat) ⟨0, tab cs.length (unitAt cs), by omega, rfl, tab_len _ _, fun i => by rw [ucl_tab]; exact hcl i⟩ ?_ (fun us h => both_F us (by omega) h.2 rfl)
  rintro s ⟨k, us, hk, rfl, hu, hC⟩
  dsimp only
  unfold law20_LbruleRaw_L5
  by_cases e : k < us.length
  · refine Post.brT (by rw [decide_eq_true_eq]; omega) ?_
    by_cases e2 : k < js.length
    · refine Post.brT (by rw [decide_eq_true_eq]; omega) (Post.idx false k rfl e2 (Post.idx uz k rfl e (Post.idx uz k rfl e (Post.pure ?_))))
      rw [wrap_succ (by omega), toNat_nat]
      exact ⟨⟨k + 1, _, by omega, rfl, by rw [List.length_set]; exact hu, cl_set e hC (hC k)⟩, by dsimp only; omega⟩
    · exact Post.brF (by rw [decide_eq_false_iff_not]; omega) (Post.pure ⟨hu, hC⟩)
  · exact Post.brF (by rw [decide_eq_false_iff_not]; omega) (Post.pure ⟨hu, hC⟩)
theorem lbruleRaw_all (x : Tys.I [.sl (.int .u8), .sl .bool]) (h : WfAll [.sl (.int .u8), .sl .bool] x) (hb : bulkAll [.sl (.int .u8), .sl .bool] x ≤ 1048576) : law20_LbruleRaw_F x.1 x.2.1 = some true := by
  simp only [bulkAll, bulk] at hb
  exact lbruleRaw_true _ _ (by omega) (fun n hn => wf_u8 (h.1.2 n hn))

/-! ### LbruleBetween -/
theorem mark_F (cs : List Int) (k : Nat) (hk : k < cs.length) : ∃ b, lbone_isMark_F cs [] (k : Int) = some b ∧ True := by
  unfold lbone_isMark_F lbone_isMark_T
  show Post _ _
  refine Post.idx 0 k rfl hk ?_
  refine Post.br (fun _ => Post.pure trivial) (fun _ => Post.br (fun _ => Post.pure trivial) (fun _ => Post.br (fun _ => ?_) (fun _ => Post.pure trivial)))
  exact Post.brF (by rw [decide_eq_false_iff_not]; simp) (Post.pure trivial)
theorem takes_F (c : Int) : ∃ b, lbone_takesMarks_F c = some b ∧ True := by
  unfold lbone_takesMarks_F lbone_takesMarks_T
  show Post _ _
  repeat' (first | exact Post.pure trivial | refine Post.br (fun _ => ?_) (fun _ => ?_))
theorem class_F (c : Int) (h : 0 ≤ c ∧ c ≤ 42) : ∃ v, lbone_Class_F c = some v ∧ (0 ≤ v ∧ v ≤ 42) := by
  unfold lbone_Class_F lbone_Class_T
  show Post _ _
  repeat' (first | exact Post.pure (by omega) | refine Post.br (fun _ => ?_) (fun _ => ?_))
theorem units_F (cs : List Int) (hn : cs.length ≤ 2097152) (hcl : Cls cs) : ∃ us, lbone_Units_F cs [] = some us ∧ (us.length ≤ cs.length ∧ Cl us) := by
  unfold lbone_Units_F lbone_Units_T
  show Post _ _
  refine Post.loop (L := fun s : List Int × List Int × List Unt × Int × Int => lbone_Units_L3 s.1 s.2.1 s.2.2.1 s.2.2.2.1 s.2.2.2.2) (R := fun us => us.length ≤ cs.length ∧ Cl us) (fun s => ∃ (k : Nat) (us : List Unt), k ≤ cs.length ∧ s = (cs, [], us, (cs.length : Int), (k : Int)) ∧ us.length ≤ k ∧ Cl us) (fun s => cs.length - s.2.2.2.2.toNat) ⟨0, [], by omega, rfl, by simp, fun i => by simp [ucl]⟩ ?_ (fun us h => Post.pure h)
  rintro s ⟨k, us, hk, rfl, hu, hC⟩
  dsimp only
  unfold lbone_Units_L3
  by_cases e : k < cs.length
  · have hck := hcl k
    have nx : ∀ {us' : List Unt}, us'.length ≤ k + 1 → Cl us' → (∃ (k' : Nat) (us : List Unt), k' ≤ cs.length ∧ (cs, ([] : List Int), us', (cs.length : Int), IntKind.i64.wrap ((k : Int) + 1)) = (cs, [], us, (cs.length : Int), (k' : Int)) ∧ us.length ≤ k' ∧ Cl us) ∧ cs.length - (IntKind.i64.wrap ((k : Int) + 1)).toNat < cs.length - (k : Int).toNat := fun h1 h2 => by
      rw [wrap_succ (by omega)]
      exact ⟨⟨k + 1, _, e, rfl, h1, h2⟩, by omega⟩
    have ap : ∀ {v : Unt} {f : List Unt → Tr (Lap (List Int × List Int × List Unt × Int × Int) (List Unt))} {Q}, Post (f (us ++ [v])) Q → Post (.bnd (app 5864062014805 us [v]) f) Q := fun h => Post.bnd (app_eq (by simp; omega)) h
    have la : (us ++ [uz]).length ≤ k + 1 := by simp; omega
    refine Post.brT (by rw [decide_eq_true_eq]; omega) (Post.call (mark_F cs k e) fun b _ => Post.idx 0 k rfl e ?_)
    have plain : ∀ {b' : Bool}, Post (Tr.bnd (idx cs (k : Int)) fun x_9 => .bnd (lbone_Class_F x_9) fun c_10 => .br b' (
            .bnd (app 5864062014805 us ([((k : Int), IntKind.i64.wrap ((k : Int) + 1), 1, cs.getD k 0 == 4)])) fun r_11 => Tr.pure (Lap.next (cs, ([] : List Int), r_11, (cs.length : Int), IntKind.i64.wrap ((k : Int) + 1)))) (
            .bnd (app 5864062014805 us ([((k : Int), IntKind.i64.wrap ((k : Int) + 1), c_10, cs.getD k 0 == 4)])) fun r_12 => Tr.pure (Lap.next (cs, ([] : List Int), r_12, (cs.length : Int), IntKind.i64.wrap ((k : Int) + 1))))) (fun l => ∃ us' : List Unt, l = (Lap.next (cs, ([] : List Int), us', (cs.length : Int), IntKind.i64.wrap ((k : Int) + 1)) : Lap (List Int × List Int × List Unt × Int × Int) (List Unt)) ∧ us'.length ≤ k + 1 ∧ Cl us') := fun {b'} =>
      Post.idx 0 k rfl e (Post.call (class_F _ hck) fun v hv => Post.br (fun _ => ap (Post.pure ⟨_, rfl, by simp; omega, cl_app hC (show (0 : Int) ≤ 1 ∧ (1 : Int) ≤ 42 by decide)⟩)) (fun _ => ap (Post.pure ⟨_, rfl, by simp; omega, cl_app hC hv⟩)))
    refine Post.mono (Q := fun l => ∃ us' : List Unt, l = (Lap.next (cs, ([] : List Int), us', (cs.length : Int), IntKind.i64.wrap ((k : Int) + 1)) : Lap (List Int × List Int × List Unt × Int × Int) (List Unt)) ∧ us'.length ≤ k + 1 ∧ Cl us') ?_ (fun l ⟨us', e1, h1, h2⟩ => by subst e1; exact nx h1 h2)
    refine Post.br (fun _ => ?_) (fun _ => plain)
    by_cases h0 : us.length = 0
    · refine Post.brF (by rw [decide_eq_false_iff_not, wrap64 (by omega) (by omega)]; omega) plain
    · have ei : IntKind.i64.wrap ((us.length : Int) - 1) = ((us.length - 1 : Nat) : Int) := by rw [wrap64 (by omega) (by omega)]; omega
      rw [ei]
      refine Post.brT (by rw [decide_eq_true_eq]; omega) (Post.idx uz (us.length - 1) rfl (by omega) (Post.call (takes_F _) fun t _ => Post.br (fun _ => ?_) (fun _ => plain)))
      have hl := hC (us.length - 1)
      rw [toNat_nat]
      refine Post.idx uz (us.length - 1) rfl (by omega) (Post.idx uz (us.length - 1) rfl (by omega) ?_)
      have hg : ∀ v : Unt, (us.set (us.length - 1) v).getD (us.length - 1) uz = v := fun v => by rw [getD_set _ _ _ _ (by omega), if_pos rfl]
      refine Post.idx uz (us.length - 1) rfl (by rw [List.length_set]; omega) (Post.idx uz (us.length - 1) rfl (by rw [List.length_set]; omega) (Post.pure ⟨_, rfl, by rw [List.length_set, List.length_set]; omega, ?_⟩))
      rw [hg]
      exact cl_set (by rw [List.length_set]; omega) (cl_set (by omega) hC hl) hl
  · exact Post.brF (by rw [decide_eq_false_iff_not]; omega) (Post.pure ⟨by omega, hC⟩)
theorem lbruleBetween_true (ns : List Int) (hn : ns.length ≤ 2097152) (h8 : ∀ n ∈ ns, 0 ≤ n ∧ n ≤ 255) : law20_LbruleBetween_F ns = some true := by
  unfold law20_LbruleBetween_F law20_LbruleBetween_T
  have hc := classes_F ns hn h8
  have hl : (tab ns.length fun i => ns.getD i 0 % 43).length = ns.length := tab_len _ _
  have hcl : Cls (tab ns.length fun i => ns.getD i 0 % 43) := classes_ok ns
  generalize (tab ns.length fun i => ns.getD i 0 % 43) = cs at *
  refine Post.run (Post.bnd awake20 (Post.brF rfl (Post.bnd hc (Post.call (units_F cs (by omega) hcl) fun us h => both_F us (by omega) h.2 rfl))))
theorem lbruleBetween_all (x : Tys.I [.sl (.int .u8)]) (h : WfAll [.sl (.int .u8)] x) (hb : bulkAll [.sl (.int .u8)] x ≤ 1048576) : law20_LbruleBetween_F x.1 = some true := by
  simp only [bulkAll, bulk] at hb
  exact lbruleBetween_true _ (by omega) (fun n hn => wf_u8 (h.1.2 n hn))
end Go.Proofs.Ytgkoijnjoellgaa
