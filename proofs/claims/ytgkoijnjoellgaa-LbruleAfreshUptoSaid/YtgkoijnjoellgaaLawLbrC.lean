/-
  Where a line must be broken; what stands behind such a boundary; what stands further behind.
-/
import Derived.Test.YtgkoijnjoellgaaLawLbrB
namespace Go.Proofs.Ytgkoijnjoellgaa
set_option linter.all false

theorem lbruleEnds_true (ns : List Int) (hn : ns.length ≤ 2097152) (h8 : ∀ n ∈ ns, 0 ≤ n ∧ n ≤ 255) : law20_LbruleEnds_F ns = some true := by
  unfold law20_LbruleEnds_F law20_LbruleEnds_T
  have hc := classes_F ns hn h8
  have hl : (tab ns.length fun i => ns.getD i 0 % 43).length = ns.length := tab_len _ _
  generalize (tab ns.length fun i => ns.getD i 0 % 43) = cs at *
  have hb := between_of cs (by omega)
  refine Post.run (Post.bnd awake20 (Post.brF rfl (Post.bnd hc (Post.bnd (of_F cs (by omega)) (Post.bnd hb ?_)))))
  have loop : ∀ {Q : Bool → Prop} {k : Unit → Tr Bool} {j : Bool → Tr Bool}, Post (k ()) Q → Post (.alt (loopW (fun s : List Unt × List Int × Int => (law20_LbruleEnds_L8 s.1 s.2.1 s.2.2).run) (tab cs.length (unitAt cs), tab cs.length (plainS cs), 1)) k j) Q := by
    intro Q k j hk
    refine Post.altL (b := ()) (count (L := fun s : List Unt × List Int × Int => law20_LbruleEnds_L8 s.1 s.2.1 s.2.2) (cs.length - 1) (fun k => (tab cs.length (unitAt cs), tab cs.length (plainS cs), ((k + 1 : Nat) : Int))) rfl (fun k hk => ?_) ?_) hk
    · dsimp only
      unfold law20_LbruleEnds_L8
      have hs := stat_ends (pst (fun i => cs.getD i 0) (fun _ => false) (k + 1)) (cs.getD (k + 1) 0) (fol (fun i => cs.getD i 0) cs.length (k + 1))
      have hv : plainS cs (k + 1) = stat (pst (fun i => cs.getD i 0) (fun _ => false) (k + 1)) (cs.getD (k + 1) 0) (fol (fun i => cs.getD i 0) cs.length (k + 1)) := if_neg (Nat.succ_ne_zero k)
      rw [← hv] at hs
      have hp : (pst (fun i => cs.getD i 0) (fun _ => false) (k + 1)).1 = cs.getD k 0 := rfl
      rw [hp] at hs
      obtain ⟨h1, h2⟩ := hs
      have hg := fun {f : Int → Tr (Lap (List Unt × List Int × Int) (Sum Unit Bool))} {Q} (hf : Post (f (plainS cs (k + 1))) Q) => ptab (n := cs.length) (g := plainS cs) (i := ((k + 1 : Nat) : Int)) (k + 1) (f := f) (Q := Q) rfl (by omega) hf
      refine Post.brT (by rw [decide_eq_true_eq, tab_len]; omega) (ptab k (by rw [wrap64 (by omega) (by omega)]; omega) (by omega) (ptab (k + 1) rfl (by omega) ?_))
      rw [wrap_succ (k := k + 1) (by omega)]
      dsimp only [unitAt]
      generalize plainS cs (k + 1) = v at *
      generalize cs.getD k 0 = a at *
      generalize cs.getD (k + 1) 0 = c at *
      have both : ∀ {t : Bool} {x : Lap (List Unt × List Int × Int) (Sum Unit Bool)}, Post (Tr.br t (Tr.pure x) (Tr.pure x)) (· = x) := fun {t x} => Post.br (fun _ => Post.pure rfl) (fun _ => Post.pure rfl)
      by_cases e5 : a = 5
      · have : (v == 2) = true := by simp; omega
        refine Post.brT (beq_iff_eq.2 e5) (hg (Post.brF (by rw [this]; rfl) both))
      refine Post.brF (beq_eq_false_iff_ne.2 e5) ?_
      by_cases e7 : a = 7
      · have : (v == 2) = true := by simp; omega
        refine Post.brT (beq_iff_eq.2 e7) (hg (Post.brF (by rw [this]; rfl) both))
      refine Post.brF (beq_eq_false_iff_ne.2 e7) ?_
      by_cases e8 : a = 8
      · have : (v == 2) = true := by simp; omega
        refine Post.brT (beq_iff_eq.2 e8) (hg (Post.brF (by rw [this]; rfl) both))
      refine Post.brF (beq_eq_false_iff_ne.2 e8) ?_
      by_cases e6 : a = 6
      · refine Post.brT (beq_iff_eq.2 e6) (hg ?_)
        by_cases c7 : c = 7
        · have h3 : (v == 2) = false := by simp; omega
          have h4 : (c != 7) = false := by simpa using c7
          refine Post.brF (by rw [h3, h4]; rfl) (Post.brF (beq_eq_false_iff_ne.2 (by omega)) (Post.pure rfl))
        · have h3 : (v == 2) = true := by simp; omega
          have h4 : (c != 7) = true := by simpa using c7
          refine Post.brF (by rw [h3, h4]; rfl) (Post.br (fun _ => Post.brF (by rw [h4]; rfl) (Post.pure rfl)) (fun _ => Post.pure rfl))
      refine Post.brF (beq_eq_false_iff_ne.2 e6) (hg ?_)
      have h3 : (v == 2) = false := by simp; omega
      refine Post.brF (by rw [h3]; rfl) (Post.br (fun h => hg (Post.brF ?_ (Post.pure rfl))) (fun _ => Post.pure rfl))
      have := h2 (by simpa using h) (by omega)
      rw [this]
      rfl
    · dsimp only
      unfold law20_LbruleEnds_L8
      exact Post.brF (by rw [decide_eq_false_iff_not, tab_len]; omega) (Post.pure rfl)
  refine Post.brF (by simp [tab_len]) ?_
  by_cases h0 : cs.length = 0
  · exact Post.brF (by rw [decide_eq_false_iff_not, tab_len]; omega) (loop (Post.pure rfl))
  · exact Post.brT (by rw [decide_eq_true_eq, tab_len]; omega) (ptab 0 rfl (by omega) (Post.brF rfl (loop (Post.pure rfl))))
theorem lbruleEnds_all (x : Tys.I [.sl (.int .u8)]) (h : WfAll [.sl (.int .u8)] x) (hb : bulkAll [.sl (.int .u8)] x ≤ 1048576) : law20_LbruleEnds_F x.1 = some true := by
  simp only [bulkAll, bulk] at hb
  exact lbruleEnds_true _ (by omega) (fun n hn => wf_u8 (h.1.2 n hn))

/-! ### LbruleAhead -/
theorem app_getD {xs ys : List Int} {k : Nat} (h : k < xs.length) : (xs ++ ys).getD k 0 = xs.getD k 0 := by simp [List.getD, List.getElem?_append_left h]
theorem app_getD' {xs ys : List Int} (k : Nat) : (xs ++ ys).getD (xs.length + k) 0 = ys.getD k 0 := by
  unfold List.getD
  rw [List.getElem?_append_right (by omega), Nat.add_sub_cancel_left]
theorem lbruleAhead_true (ns ms : List Int) (hn : ns.length + ms.length ≤ 2097152) (h8 : ∀ n ∈ ns, 0 ≤ n ∧ n ≤ 255) (m8 : ∀ n ∈ ms, 0 ≤ n ∧ n ≤ 255) : law20_LbruleAhead_F ns ms = some true := by
  unfold law20_LbruleAhead_F law20_LbruleAhead_T
  have hc := classes_F ns (by omega) h8
  have hd := classes_F ms (by omega) m8
  have hl : (tab ns.length fun i => ns.getD i 0 % 43).length = ns.length := tab_len _ _
  have hm : (tab ms.length fun i => ms.getD i 0 % 43).length = ms.length := tab_len _ _
  generalize (tab ns.length fun i => ns.getD i 0 % 43) = cs at *
  generalize (tab ms.length fun i => ms.getD i 0 % 43) = ds at *
  have e0 : ([] : List Int) ++ cs = cs := rfl
  have hlen : (cs ++ ds).length = cs.length + ds.length := List.length_append
  refine Post.run (Post.bnd awake20 (Post.brF rfl (Post.bnd hc (Post.bnd (app_eq (by simp; omega)) (Post.bnd hd (Post.bnd (app_eq (by simp; omega)) ?_))))))
  rw [e0]
  refine Post.bnd (of_F cs (by omega)) (Post.bnd (between_of cs (by omega)) (Post.bnd (of_F (cs ++ ds) (by omega)) (Post.bnd (between_of (cs ++ ds) (by omega)) ?_)))
  refine Post.brF (by simp [tab_len]) (Post.brF (by simp [tab_len]) (Post.altL (b := ()) (count (L := fun s : List Int × List Int × List Int × Int => law20_LbruleAhead_L9 s.1 s.2.1 s.2.2.1 s.2.2.2) (cs.length - 1) (fun k => (cs, tab cs.length (plainS cs), tab (cs ++ ds).length (plainS (cs ++ ds)), (k : Int))) rfl (fun k hk => ?_) ?_) (Post.pure rfl)))
  · dsimp only
    unfold law20_LbruleAhead_L9
    rw [wrap_succ (by omega)]
    refine Post.brT (by rw [decide_eq_true_eq]; omega) (ptab k rfl (by omega) (ptab k rfl (by omega) (Post.brF ?_ (Post.pure rfl))))
    have : plainS cs k = plainS (cs ++ ds) k := sts_congr (fun i hi => (app_getD (by omega)).symm) (fun _ _ => rfl) (by omega) (by omega)
    rw [this]
    simp
  · dsimp only
    unfold law20_LbruleAhead_L9
    rw [wrap_succ (by omega)]
    exact Post.brF (by rw [decide_eq_false_iff_not]; omega) (Post.pure rfl)
theorem lbruleAhead_all (x : Tys.I [.sl (.int .u8), .sl (.int .u8)]) (h : WfAll [.sl (.int .u8), .sl (.int .u8)] x) (hb : bulkAll [.sl (.int .u8), .sl (.int .u8)] x ≤ 1048576) : law20_LbruleAhead_F x.1 x.2.1 = some true := by
  simp only [bulkAll, bulk] at hb
  exact lbruleAhead_true _ _ (by omega) (fun n hn => wf_u8 (h.1.2 n hn)) (fun n hn => wf_u8 (h.2.1.2 n hn))

/-! ### LbruleAfresh -/
theorem after {f f' : Nat → Int} {m : Nat} (hf : ∀ i, f (m + 1 + i) = f' i) (h5 : f m = 5) : ∀ k, num f (m + 1 + k) = num f' k ∧ clo f (m + 1 + k) = clo f' k ∧ oddb f (m + 1 + k) = oddb f' k ∧ (sol f (m + 1 + k) = sol f' k ∨ (sol f (m + 1 + k) = 5 ∧ sol f' k = 9))
  | 0 => by
    simp only [Nat.add_zero, num, clo, oddb, sol, h5]
    simp
  | k + 1 => by
    obtain ⟨h1, h2, h3, h4⟩ := after hf h5 k
    have e := hf k
    rw [show m + 1 + (k + 1) = (m + 1 + k) + 1 by omega]
    simp only [num, clo, oddb, sol, e, h1, h3]
    refine ⟨trivial, trivial, trivial, ?_⟩
    by_cases h : f' k = 9
    · rw [if_pos h, if_pos h]
      exact h4
    · rw [if_neg h, if_neg h]
      exact .inl rfl
theorem afresh {f f' : Nat → Int} {m l k : Nat} (hf : ∀ i, f (m + 1 + i) = f' i) (h5 : f m = 5) (hk : 0 < k) : sts f (fun _ => false) (m + 1 + l) (m + 1 + k) = sts f' (fun _ => false) l k := by
  obtain ⟨h1, h2, h3, h4⟩ := after hf h5 k
  unfold sts
  rw [if_neg (by omega), if_neg (by omega)]
  have e1 : lst f (m + 1 + k) = lst f' k := by
    obtain ⟨j, rfl⟩ : ∃ j, k = j + 1 := ⟨k - 1, by omega⟩
    rw [show m + 1 + (j + 1) = (m + 1 + j) + 1 by omega]
    exact hf j
  have e2 : fol f (m + 1 + l) (m + 1 + k) = fol f' l k := by
    unfold fol
    by_cases h : k + 1 < l
    · rw [if_pos h, if_pos (by omega), show m + 1 + k + 1 = m + 1 + (k + 1) by omega, hf]
    · rw [if_neg h, if_neg (by omega)]
  have e3 : (bef f (m + 1 + k) == 2) = (bef f' k == 2) := by
    obtain ⟨j, rfl⟩ : ∃ j, k = j + 1 := ⟨k - 1, by omega⟩
    rw [show m + 1 + (j + 1) = (m + 1 + j) + 1 by omega]
    show (lst f (m + 1 + j) == 2) = (lst f' j == 2)
    cases j with
    | zero =>
      show (f m == 2) = ((0 : Int) == 2)
      rw [h5]
      rfl
    | succ j =>
      rw [show m + 1 + (j + 1) = (m + 1 + j) + 1 by omega]
      show (f (m + 1 + j) == 2) = (f' j == 2)
      rw [hf]
  have e4 : joi (fun _ => false) (m + 1 + k) = joi (fun _ => false) k := by
    obtain ⟨j, rfl⟩ : ∃ j, k = j + 1 := ⟨k - 1, by omega⟩
    rw [show m + 1 + (j + 1) = (m + 1 + j) + 1 by omega]
    rfl
  rw [e2, hf]
  unfold pst
  rw [e1, e4, h1, h2, h3]
  exact stat_congr e3 h4
@[reducible] def cat5 (cs ds : List Int) (i : Nat) : Int := (cs ++ [5] ++ ds).getD i 0
theorem lbruleAfresh_true (ns ms : List Int) (hn : ns.length + ms.length ≤ 2097152) (h8 : ∀ n ∈ ns, 0 ≤ n ∧ n ≤ 255) (m8 : ∀ n ∈ ms, 0 ≤ n ∧ n ≤ 255) : law20_LbruleAfresh_F ns ms = some true := by
  unfold law20_LbruleAfresh_F law20_LbruleAfresh_T
  have hc := classes_F ns (by omega) h8
  have hd := classes_F ms (by omega) m8
  have hl : (tab ns.length fun i => ns.getD i 0 % 43).length = ns.length := tab_len _ _
  have hm : (tab ms.length fun i => ms.getD i 0 % 43).length = ms.length := tab_len _ _
  generalize (tab ns.length fun i => ns.getD i 0 % 43) = cs at *
  generalize (tab ms.length fun i => ms.getD i 0 % 43) = ds at *
  have e0 : ([] : List Int) ++ cs = cs := rfl
  have hlen : (cs ++ [5] ++ ds).length = cs.length + 1 + ds.length := by simp; omega
  refine Post.run (Post.bnd awake20 (Post.brF rfl (Post.bnd hc (Post.bnd hd (Post.bnd (app_eq (by simp; omega)) ?_)))))
  rw [e0]
  refine Post.bnd (app_eq (by simp; omega)) (Post.bnd (app_eq (by simp; omega)) ?_)
  refine Post.bnd (of_F (cs ++ [5] ++ ds) (by omega)) (Post.bnd (between_of (cs ++ [5] ++ ds) (by omega)) (Post.bnd (of_F ds (by omega)) (Post.bnd (between_of ds (by omega)) ?_)))
  have hf : ∀ i, (fun i => (cs ++ [5] ++ ds).getD i 0) (cs.length + 1 + i) = (fun i => ds.getD i 0) i := fun i => by
    have := app_getD' (xs := cs ++ [5]) (ys := ds) i
    simpa using this
  have h5 : (fun i => (cs ++ [5] ++ ds).getD i 0) cs.length = 5 := by
    show (cs ++ [5] ++ ds).getD cs.length 0 = 5
    simp [List.getD]
  rw [hlen, wrap_succ (by omega)]
  have hw : ∀ j : Nat, j ≤ 2097152 → IntKind.i64.wrap (((cs.length + 1 : Nat) : Int) + (j : Int)) = ((cs.length + 1 + j : Nat) : Int) := fun j hj => by rw [wrap64 (by omega) (by omega)]; omega
  rw [hw _ (by omega)]
  refine Post.brF (by simp [tab_len]) (Post.brF (by simp [tab_len]) (Post.altL (b := (cs, ds, tab (cs.length + 1 + ds.length) (plainS (cs ++ [5] ++ ds)))) (count (L := fun s : List Int × List Int × List Int × List Int × Int => law20_LbruleAfresh_L12 s.1 s.2.1 s.2.2.1 s.2.2.2.1 s.2.2.2.2) (ds.length - 1) (fun k => (cs, ds, tab (cs.length + 1 + ds.length) (plainS (cs ++ [5] ++ ds)), tab ds.length (plainS ds), ((k + 1 : Nat) : Int))) rfl (fun k hk => ?_) ?_) ?_))
  · dsimp only
    unfold law20_LbruleAfresh_L12
    rw [wrap_succ (k := cs.length) (by omega), hw _ (by omega), wrap_succ (by omega)]
    refine Post.brT (by rw [decide_eq_true_eq]; omega) (ptab (cs.length + 1 + (k + 1)) rfl (by omega) (ptab (k + 1) rfl (by omega) (Post.brF ?_ (Post.pure rfl))))
    have := afresh (f := fun i => (cs ++ [5] ++ ds).getD i 0) (f' := fun i => ds.getD i 0) (m := cs.length) (l := ds.length) hf h5 (Nat.succ_pos k)
    rw [show plainS (cs ++ [5] ++ ds) (cs.length + 1 + (k + 1)) = plainS ds (k + 1) by unfold plainS; rw [hlen]; exact this]
    simp
  · dsimp only
    unfold law20_LbruleAfresh_L12
    exact Post.brF (by rw [decide_eq_false_iff_not]; omega) (Post.pure rfl)
  · dsimp only
    by_cases h0 : ds.length = 0
    · exact Post.brT (by rw [beq_iff_eq]; omega) (Post.pure rfl)
    · refine Post.brF (by rw [beq_eq_false_iff_ne]; omega) ?_
      rw [wrap_succ (by omega)]
      refine ptab (cs.length + 1) rfl (by omega) (Post.pure ?_)
      have hs := (stat_ends (pst (cat5 cs ds) (fun _ => false) (cs.length + 1)) (cat5 cs ds (cs.length + 1)) (fol (cat5 cs ds) (cs ++ [5] ++ ds).length (cs.length + 1))).1.2 (.inl (show cat5 cs ds cs.length = 5 from h5))
      rw [show plainS (cs ++ [5] ++ ds) (cs.length + 1) = 2 from (if_neg (Nat.succ_ne_zero _)).trans hs]
      rfl
theorem lbruleAfresh_all (x : Tys.I [.sl (.int .u8), .sl (.int .u8)]) (h : WfAll [.sl (.int .u8), .sl (.int .u8)] x) (hb : bulkAll [.sl (.int .u8), .sl (.int .u8)] x ≤ 1048576) : law20_LbruleAfresh_F x.1 x.2.1 = some true := by
  simp only [bulkAll, bulk] at hb
  exact lbruleAfresh_true _ _ (by omega) (fun n hn => wf_u8 (h.1.2 n hn)) (fun n hn => wf_u8 (h.2.1.2 n hn))
end Go.Proofs.Ytgkoijnjoellgaa
