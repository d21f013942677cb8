/-
  Parts of elder texts, cut out for the levels.
-/
import Derived.Test.YtbahobcalimoiaaLawLinCel
namespace Go.Proofs.Ytbahobcalimoiaa
set_option linter.all false
def clMark (c w : Int) : Bool := c == 3 || c == 4 || (c == 40 && w == 0)
theorem isMark_F (c w : Int) : cluster_isMark_F c w = some (clMark c w) := by
  unfold cluster_isMark_F cluster_isMark_T clMark
  simp only [Tr.run_br, Tr.run_pure]
  by_cases h1 : c = 3 <;> by_cases h2 : c = 4 <;> by_cases h3 : c = 40 <;> simp_all
theorem control_F (c : Int) : ∃ b, cluster_control_F c = some b := by
  unfold cluster_control_F cluster_control_T
  simp only [Tr.run_br, Tr.run_pure]
  by_cases h1 : c = 6 <;> by_cases h2 : c = 7 <;> by_cases h3 : c = 5 <;> by_cases h4 : c = 8 <;> by_cases h5 : c = 10 <;> simp_all
theorem picto_F (c : Int) : ∃ b, cluster_pictograph_F c = some b := by
  unfold cluster_pictograph_F cluster_pictograph_T
  simp only [Tr.run_br, Tr.run_pure]
  by_cases h1 : c = 30 <;> by_cases h2 : c = 31 <;> simp_all
theorem ite_any {α : Type} {c : Bool} {x y : Option α} (hx : ∃ b, x = some b) (hy : ∃ b, y = some b) : ∃ b, (if c = true then x else y) = some b := by
  cases c
  · exact hy
  · exact hx
theorem builds_F (a c : Int) : ∃ b, cluster_builds_F a c = some b := by
  unfold cluster_builds_F cluster_builds_T
  simp only [Tr.run_br, Tr.run_pure]
  repeat' first | exact ⟨_, rfl⟩ | apply ite_any
theorem one_idx {α : Type} (p : α) : idx [p] 0 = some p := idx_get (k := 0) rfl (by simp)
theorem parts_ok (p : Int × Bool × Int) (c : Int) (m : Bool) : ∃ b, cluster_past_parts_F p c m = some (p, b) := by
  have key : ∃ z, cluster_past_parts_F p c m = some z ∧ z.1 = p := by
    unfold cluster_past_parts_F cluster_past_parts_T
    obtain ⟨x1, e1⟩ := control_F p.1
    obtain ⟨x2, e2⟩ := control_F c
    obtain ⟨x3, e3⟩ := picto_F c
    obtain ⟨x4, e4⟩ := builds_F p.1 c
    have it : ∀ {c : Bool} {x y : Option ((Int × Bool × Int) × Bool)}, (∃ z, x = some z ∧ z.1 = p) → (∃ z, y = some z ∧ z.1 = p) → ∃ z, (if c = true then x else y) = some z ∧ z.1 = p := by
      intro c x y hx hy
      cases c
      · exact hy
      · exact hx
    simp only [one_idx, Tr.run_bnd', Tr.run_br, Tr.run_pure, e1, e2, e3, e4]
    repeat' first | exact ⟨_, rfl, rfl⟩ | apply it
  obtain ⟨z, h1, h2⟩ := key
  exact ⟨z.2, by rw [h1, ← h2]⟩
theorem add_ok (p : Int × Bool × Int) (c : Int) (m b : Bool) : ∃ q, cluster_past_add_F p c m b = some (q, ()) := by
  unfold cluster_past_add_F cluster_past_add_T
  obtain ⟨x3, e3⟩ := picto_F c
  have it : ∀ {c : Bool} {x y : Option ((Int × Bool × Int) × Unit)}, (∃ z, x = some (z, ())) → (∃ z, y = some (z, ())) → ∃ z, (if c = true then x else y) = some (z, ()) := by
    intro c x y hx hy
    cases c
    · exact hy
    · exact hx
  simp only [one_idx, Tr.run_bnd', Tr.run_br, Tr.run_pure, e3]
  repeat' first | exact ⟨_, rfl⟩ | apply it
noncomputable def clParts (p : Int × Bool × Int) (c : Int) (m : Bool) : Bool := ((cluster_past_parts_F p c m).getD (p, false)).2
noncomputable def clAdd (p : Int × Bool × Int) (c : Int) (m b : Bool) : Int × Bool × Int := ((cluster_past_add_F p c m b).getD (p, ())).1
theorem parts_F (p : Int × Bool × Int) (c : Int) (m : Bool) : cluster_past_parts_F p c m = some (p, clParts p c m) := by
  obtain ⟨b, h⟩ := parts_ok p c m
  unfold clParts
  rw [h]
  rfl
theorem add_F (p : Int × Bool × Int) (c : Int) (m b : Bool) : cluster_past_add_F p c m b = some (clAdd p c m b, ()) := by
  obtain ⟨q, h⟩ := add_ok p c m b
  unfold clAdd
  rw [h]
  rfl
noncomputable def clAt (rs : List Int) : Nat → List Bool × (Int × Bool × Int)
  | 0 => (((List.replicate (rs.length + 1) false).set 0 true).set rs.length true, (0, false, 0))
  | k + 1 =>
    let c := lc (rs.getD k 0)
    let m := clMark c (cw (rs.getD k 0))
    if k = 0 then ((clAt rs k).1, clAdd (clAt rs k).2 c m ((clAt rs k).1.getD k false))
    else ((clAt rs k).1.set k (clParts (clAt rs k).2 c m), clAdd (clAt rs k).2 c m (clParts (clAt rs k).2 c m))
noncomputable def clBreaks (rs : List Int) : List Bool := (clAt rs rs.length).1
theorem clAt_len (rs : List Int) : ∀ k, (clAt rs k).1.length = rs.length + 1
  | 0 => by simp [clAt]
  | k + 1 => by
    unfold clAt
    dsimp only
    split
    · exact clAt_len rs k
    · simp [clAt_len rs k]
theorem clAt_keeps (rs : List Int) (j : Nat) (hj : j = 0 ∨ rs.length ≤ j) (hl : j ≤ rs.length) : ∀ k, k ≤ rs.length → (clAt rs k).1[j]? = some true
  | 0, _ => by
    unfold clAt
    dsimp only
    rcases hj with rfl | h
    · by_cases e : rs.length = 0
      · rw [e]; simp
      · rw [List.getElem?_set_ne e]; simp
    · have : j = rs.length := by omega
      subst this
      simp
  | k + 1, hk => by
    have ih := clAt_keeps rs j hj hl k (by omega)
    unfold clAt
    dsimp only
    split
    · exact ih
    · rename_i hne
      rw [List.getElem?_set_ne (by omega)]
      exact ih
theorem breaks_F (rs : List Int) (hn : rs.length ≤ 8388608) : cluster_Breaks_F rs = some (clBreaks rs) := by
  unfold cluster_Breaks_F cluster_Breaks_T
  rw [wrap_succ' hn]
  refine Post.run (Post.bnd (mk_eq (k := rs.length + 1) rfl (by omega)) (Post.idx false 0 rfl (by simp) (Post.idx false rs.length rfl (by simp) (Post.bnd (linec_of rs hn) (Post.bnd (cellw_of rs hn) (Post.bnd (count (L := fun s : List Bool × List Int × (Int × Bool × Int) × List Int × Int × Int => cluster_Breaks_L6 s.1 s.2.1 s.2.2.1 s.2.2.2.1 s.2.2.2.2.1 s.2.2.2.2.2) rs.length
    (fun k => ((clAt rs k).1, tab rs.length (fun i => cw (rs.getD i 0)), (clAt rs k).2, tab rs.length (fun i => lc (rs.getD i 0)), (rs.length : Int), (k : Int))) ?_ (fun k hk => ?_) ?_) (Post.pure rfl)))))))
  · rw [tab_len]; rfl
  · dsimp only
    unfold cluster_Breaks_L6
    have hlen := clAt_len rs k
    refine Post.brT (by simpa using hk) (Post.idx 0 k rfl (by rw [tab_len]; exact hk) (Post.idx 0 k rfl (by rw [tab_len]; exact hk) ?_))
    rw [tab_getD _ _ hk, tab_getD _ _ hk, wrap_succ' (by omega), Int.toNat_natCast]
    refine Post.bnd (isMark_F _ _) (Post.br (fun h => ?_) (fun h => ?_))
    · have h : k ≠ 0 := by
        rw [decide_eq_true_eq] at h; omega
      have e : clAt rs (k + 1) = ((clAt rs k).1.set k (clParts (clAt rs k).2 (lc (rs.getD k 0)) (clMark (lc (rs.getD k 0)) (cw (rs.getD k 0)))), clAdd (clAt rs k).2 (lc (rs.getD k 0)) (clMark (lc (rs.getD k 0)) (cw (rs.getD k 0))) (clParts (clAt rs k).2 (lc (rs.getD k 0)) (clMark (lc (rs.getD k 0)) (cw (rs.getD k 0))))) := by
        rw [clAt]; exact if_neg h
      rw [e]
      refine Post.bnd (one_idx _) (Post.bnd (parts_F _ _ _) (Post.idx false k rfl (by rw [hlen]; omega) (Post.idx false k rfl (by rw [List.length_set, hlen]; omega) ?_)))
      refine Post.bnd (one_idx _) (Post.bnd (add_F _ _ _ _) (Post.pure ?_))
      have e2 : ((clAt rs k).1.set k (clParts (clAt rs k).2 (lc (rs.getD k 0)) (clMark (lc (rs.getD k 0)) (cw (rs.getD k 0))))).getD k false = clParts (clAt rs k).2 (lc (rs.getD k 0)) (clMark (lc (rs.getD k 0)) (cw (rs.getD k 0))) := by
        simp only [List.getD]
        rw [List.getElem?_set_self (by rw [hlen]; omega)]
        rfl
      rw [e2]
    · have h : k = 0 := by
        rw [decide_eq_false_iff_not] at h; omega
      have e : clAt rs (k + 1) = ((clAt rs k).1, clAdd (clAt rs k).2 (lc (rs.getD k 0)) (clMark (lc (rs.getD k 0)) (cw (rs.getD k 0))) ((clAt rs k).1.getD k false)) := by
        rw [clAt]; exact if_pos h
      rw [e]
      exact Post.idx false k rfl (by rw [hlen]; omega) (Post.bnd (one_idx _) (Post.bnd (add_F _ _ _ _) (Post.pure rfl)))
  · dsimp only
    unfold cluster_Breaks_L6
    exact Post.brF (by simp) (Post.pure rfl)

end Go.Proofs.Ytbahobcalimoiaa
