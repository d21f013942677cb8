/-
  The laws of lbone return true: marks at the end, and texts one behind the other.
-/
import Derived.Test.YteldfdpjgpjafaaLawLboneB
namespace Go.Proofs.Yteldfdpjgpjafaa

theorem app_getD {a b : List Int} {k : Nat} (d : Int) : (a ++ b).getD k d = if k < a.length then a.getD k d else b.getD (k - a.length) d := by
  by_cases h : k < a.length
  · rw [if_pos h, List.getD_eq_getElem?_getD, List.getElem?_append_left h, ← List.getD_eq_getElem?_getD]
  · rw [if_neg h, List.getD_eq_getElem?_getD, List.getElem?_append_right (by omega), ← List.getD_eq_getElem?_getD]

theorem isM_front (cs t ws : List Int) {k : Nat} (h : k < cs.length) : isM (cs ++ t) ws k = isM cs ws k := by
  unfold isM
  rw [app_getD, if_pos h]
theorem isM_behind (a b : List Int) (k : Nat) : isM (a ++ b) [] (a.length + k) = isM b [] k := by
  unfold isM
  rw [app_getD, if_neg (by omega), show a.length + k - a.length = k by omega]
  simp

theorem units_front (cs t ws : List Int) : ∀ k, k ≤ cs.length → unitsR (cs ++ t) ws k = unitsR cs ws k
  | 0, _ => rfl
  | k + 1, hk => by
    have hg : (cs ++ t).getD k 0 = cs.getD k 0 := by rw [app_getD, if_pos (by omega)]
    unfold unitsR
    rw [units_front cs t ws k (by omega), isM_front cs t ws (by omega), hg]

theorem units_none (cs ws : List Int) : ∀ k, unitsR cs ws k = [] → k = 0
  | 0, _ => rfl
  | k + 1, h => by
    unfold unitsR at h
    split at h
    · cases h
    · split at h <;> cases h

theorem units_more {cs : List Int} {u : U} {r : List U} (h : unitsR cs [] cs.length = u :: r) (ht : tk u.2.2.1 = true) : ∀ q : Nat, ∃ j : Bool, unitsR (cs ++ List.replicate q 3) [] (cs.length + q) = (u.1, ((cs.length + q : Nat) : Int), u.2.2.1, j) :: r
  | 0 => by
    refine ⟨u.2.2.2, ?_⟩
    have h2 := (chain_ok cs [] cs.length (Nat.le_refl _))
    rw [h] at h2
    have : u.2.1 = cs.length := h2.2.1
    simp only [List.replicate_zero, List.append_nil, Nat.add_zero]
    rw [h, ← this]
  | q + 1 => by
    obtain ⟨j, ih⟩ := units_more h ht q
    have e : unitsR (cs ++ List.replicate (q + 1) 3) [] (cs.length + q) = (u.1, ((cs.length + q : Nat) : Int), u.2.2.1, j) :: r := by
      rw [List.replicate_succ', ← List.append_assoc, units_front _ _ _ _ (by simp)]
      exact ih
    have hm : isM (cs ++ List.replicate (q + 1) 3) [] (cs.length + q) = true := by
      rw [isM_behind]
      unfold isM
      have : (List.replicate (q + 1) (3 : Int)).getD q 0 = 3 := by simp [List.getD]
      rw [this]; rfl
    rw [← Nat.add_assoc]
    unfold unitsR
    rw [e, hm]
    dsimp only
    rw [ht]
    exact ⟨_, rfl⟩

theorem lboneMarks_F (ns : List Int) (more : Int) (h1 : ns.length ≤ 2097152) (w1 : ∀ n ∈ ns, 0 ≤ n ∧ n ≤ 255) (w2 : 0 ≤ more ∧ more ≤ 255) : law19_LboneMarks_F ns more = some true := by
  unfold law19_LboneMarks_F law19_LboneMarks_T
  generalize hc : (tab ns.length fun i => (ns.getD i 0) % 43) = cs
  have hcl : cs.length ≤ 2097152 := by rw [← hc, tab_len]; exact h1
  refine Post.run (Post.bnd awake19 (Post.brF rfl (Post.bnd (by rw [classes_F ns h1 w1, hc]) (Post.bnd (units_F cs [] (by omega)) ?_))))
  have hul := unitsR_len cs [] cs.length
  cases hR : unitsR cs [] cs.length with
  | nil =>
    have := units_none cs [] _ hR
    exact Post.brT (by simp) (Post.brT (by simp [this]) (Post.pure rfl))
  | cons u r =>
    rw [hR] at hul
    simp only [List.length_cons] at hul
    have hlen : (u :: r).reverse.length = r.length + 1 := by simp
    have hlast : ∀ v : U, (v :: r).reverse.getD r.length (0, 0, 0, false) = v := fun v => by
      rw [List.reverse_cons, List.getD_eq_getElem?_getD, List.getElem?_append_right (by simp)]; simp
    have hinit : ∀ (v : U) (k : Nat), k < r.length → (v :: r).reverse.getD k (0, 0, 0, false) = r.reverse.getD k (0, 0, 0, false) := fun v k hk => by
      rw [List.reverse_cons, List.getD_eq_getElem?_getD, List.getElem?_append_left (by simpa using hk), ← List.getD_eq_getElem?_getD]
    have hvl : ∀ v : U, (v :: r).reverse.length = r.length + 1 := fun v => by simp
    have hw : ∀ v : U, IntKind.i64.wrap (((v :: r).reverse.length : Int) - 1) = (r.length : Int) := fun v => by
      rw [hvl, wrap64 (by omega) (by omega)]; omega
    refine Post.brF (by rw [hlen]; simp; omega) ?_
    rw [hw]
    refine Post.idx (0, 0, 0, false) r.length rfl (by simp) ?_
    rw [hlast]
    refine Post.bnd (apart_F _) (Post.br (fun h => ?_) (fun h => ?_))
    · exact Post.br (fun _ => Post.pure rfl) (fun _ => Post.pure (by rw [hlen]; exact decide_eq_true (by omega)))
    · have ht : tk u.2.2.1 = true := by simpa using h
      obtain ⟨q, hq, hq5⟩ : ∃ q : Nat, IntKind.i64.wrap (more.tmod 5) = (q : Int) ∧ q < 5 := by
        rw [Int.tmod_eq_emod_of_nonneg w2.1, wrap64 (by omega) (by omega)]
        exact ⟨(more % 5).toNat, by omega, by omega⟩
      refine Post.bnd (b := (cs ++ List.replicate q 3, (u :: r).reverse)) (count (L := fun s : Int × List Int × List U × Int => law19_LboneMarks_L8 s.1 s.2.1 s.2.2.1 s.2.2.2) q (fun k => (more, cs ++ List.replicate k 3, (u :: r).reverse, (k : Int))) (by simp) (fun k hk => ?_) ?_) ?_
      · dsimp only
        unfold law19_LboneMarks_L8
        rw [hq]
        refine Post.brT (by simpa using hk) (Post.bnd (app_eq (by simp; omega)) (Post.pure ?_))
        rw [wrap64 (by omega) (by omega), List.append_assoc, ← List.replicate_succ']; rfl
      · dsimp only
        unfold law19_LboneMarks_L8
        rw [hq]
        exact Post.brF (by simp) (Post.pure rfl)
      dsimp only
      obtain ⟨j, hmore⟩ := units_more hR ht q
      have hl2 : (cs ++ List.replicate q (3 : Int)).length = cs.length + q := by simp
      have hu2 := units_F (cs ++ List.replicate q 3) [] (by omega)
      rw [hl2, hmore] at hu2
      generalize hv : ((u.1, ((cs.length + q : Nat) : Int), u.2.2.1, j) : U) = v at hu2
      refine Post.bnd hu2 (Post.brF (by simp) (Post.altL (b := (cs ++ List.replicate q 3, (u :: r).reverse, (v :: r).reverse)) (count (L := fun s : List Int × List U × List U × Int => law19_LboneMarks_L15 s.1 s.2.1 s.2.2.1 s.2.2.2) r.length
        (fun k => (cs ++ List.replicate q 3, (u :: r).reverse, (v :: r).reverse, (k : Int))) rfl (fun k hk => ?_) ?_) ?_))
      · dsimp only
        unfold law19_LboneMarks_L15
        rw [hw]
        refine Post.brT (by simpa using hk) (Post.idx (0, 0, 0, false) k rfl (by simp; omega) (Post.idx (0, 0, 0, false) k rfl (by simp; omega) ?_))
        rw [hinit u k hk, hinit v k hk]
        refine Post.brF (by simp) (Post.pure ?_)
        rw [wrap64 (by omega) (by omega)]; rfl
      · dsimp only
        unfold law19_LboneMarks_L15
        rw [hw]
        exact Post.brF (by simp) (Post.pure rfl)
      · dsimp only
        have one : ∀ {α : Type} {f : U → Tr α} {Q : α → Prop}, Post (f v) Q → Post (.bnd (idx [v] 0) f) Q := fun {α f Q} h => Post.bnd (show idx [v] 0 = some v from rfl) h
        rw [hw]
        refine Post.idx (0, 0, 0, false) r.length rfl (by simp) ?_
        rw [hlast]
        refine one ?_
        rw [hw]
        refine Post.idx (0, 0, 0, false) r.length rfl (by simp) ?_
        rw [hlast]
        refine Post.brT (by rw [← hv]; simp) (one (Post.brT (by rw [← hv, hl2]; simp) (one ?_)))
        refine Post.idx (0, 0, 0, false) r.length rfl (by simp) ?_
        rw [hlast]
        exact Post.pure (by rw [← hv]; simp)

/-! ### behind a space -/
def shift (n : Int) (u : U) : U := (u.1 + n, u.2.1 + n, u.2.2)

theorem units_parts (a b : List Int) {v : U} {r : List U} (ha : unitsR a [] a.length = v :: r) (hv : tk v.2.2.1 = false) : ∀ j, j ≤ b.length → unitsR (a ++ b) [] (a.length + j) = (unitsR b [] j).map (shift a.length) ++ v :: r
  | 0, _ => by
    rw [Nat.add_zero, units_front _ _ _ _ (Nat.le_refl _), ha]; rfl
  | j + 1, hj => by
    have ih := units_parts a b ha hv j (by omega)
    rw [← Nat.add_assoc]
    have hg : (a ++ b).getD (a.length + j) 0 = b.getD j 0 := by rw [app_getD, if_neg (by omega), show a.length + j - a.length = j by omega]
    conv => lhs; unfold unitsR
    rw [ih, isM_behind, hg]
    conv => rhs; unfold unitsR
    cases hb : unitsR b [] j with
    | nil =>
      have := units_none b [] j hb
      subst this
      simp only [List.map_nil, List.nil_append, hv, Bool.and_false, Bool.false_eq_true, if_false, List.map_cons, List.cons_append]
      simp [shift]; omega
    | cons u s =>
      simp only [List.map_cons, List.cons_append]
      have e : (shift (↑a.length) u).2.2.1 = u.2.2.1 := rfl
      rw [e]
      split
      · simp only [List.map_cons, List.cons_append]
        simp [shift]; omega
      · simp only [List.map_cons, List.cons_append]
        simp [shift]; omega

theorem units_space (cs : List Int) : ∃ v r, unitsR (cs ++ [9]) [] (cs ++ [9]).length = v :: r ∧ tk v.2.2.1 = false := by
  have hl : (cs ++ [(9 : Int)]).length = cs.length + 1 := by simp
  rw [hl]
  have hm : isM (cs ++ [9]) [] cs.length = false := by
    have := isM_behind cs [9] 0
    rw [Nat.add_zero] at this
    rw [this]; rfl
  have hg : (cs ++ [(9 : Int)]).getD cs.length 0 = 9 := by rw [app_getD, if_neg (by omega)]; simp
  unfold unitsR
  rw [hm, hg]
  split
  · exact ⟨_, _, rfl, rfl⟩
  · exact ⟨_, _, rfl, rfl⟩

theorem chainR_mem {cs ws : List Int} : ∀ {R : List U} {n : Int}, ChainR cs ws R n → ∀ u ∈ R, Unit' cs ws u
  | [], _, _, u, h => by cases h
  | v :: r, _, h, u, hu => by
    rcases List.mem_cons.1 hu with rfl | hu
    · exact h.1
    · exact chainR_mem h.2.2.1 u hu
theorem units_all (cs ws : List Int) (k : Nat) (hk : k ≤ cs.length) : ∀ u ∈ unitsR cs ws k, Unit' cs ws u := chainR_mem (chain_ok cs ws k hk)

theorem lboneParts_F (ns ms : List Int) (h1 : ns.length ≤ 2097152) (h2 : ms.length ≤ 2097152 - 1) (w1 : ∀ n ∈ ns, 0 ≤ n ∧ n ≤ 255) (w2 : ∀ n ∈ ms, 0 ≤ n ∧ n ≤ 255) : law19_LboneParts_F ns ms = some true := by
  unfold law19_LboneParts_F law19_LboneParts_T
  generalize hc : (tab ns.length fun i => (ns.getD i 0) % 43) = cs
  generalize hd : (tab ms.length fun i => (ms.getD i 0) % 43) = b
  have hcl : cs.length ≤ 2097152 := by rw [← hc, tab_len]; exact h1
  have hbl : b.length ≤ 2097152 - 1 := by rw [← hd, tab_len]; exact h2
  obtain ⟨v, r, hv, hvt⟩ := units_space cs
  refine Post.run (Post.bnd awake19 (Post.brF rfl (Post.bnd (by rw [classes_F ns h1 w1, hc]) (Post.bnd (app_eq (by simp; omega)) ?_))))
  have hal : (cs ++ [(9 : Int)]).length ≤ 2097153 := by simp; omega
  generalize cs ++ [(9 : Int)] = a at hv hal
  refine Post.bnd (by rw [classes_F ms (by omega) w2, hd]) (Post.bnd (app_eq (by simp; omega)) (Post.bnd (app_eq (by simp; omega)) ?_))
  rw [List.nil_append]
  have hab : (a ++ b).length = a.length + b.length := by simp
  have hall := units_parts a b hv hvt b.length (Nat.le_refl _)
  rw [← hab] at hall
  refine Post.bnd (units_F a [] (by omega)) (Post.bnd (units_F b [] (by omega)) (Post.bnd (units_F (a ++ b) [] (by omega)) ?_))
  have n1 := unitsR_len a [] a.length
  have n2 := unitsR_len b [] b.length
  rw [hall, ← hv]
  generalize unitsR a [] a.length = X at n1
  have hY := units_all b [] b.length (Nat.le_refl _)
  generalize unitsR b [] b.length = Y at n2 hY
  rw [List.reverse_append, ← List.map_reverse]
  have hxl : X.reverse.length ≤ a.length := by simpa using n1
  have hyl : Y.reverse.length ≤ b.length := by simpa using n2
  generalize X.reverse = x at hxl
  have hy : ∀ u ∈ Y.reverse, Unit' b [] u := fun u hu => hY u (by simpa using hu)
  generalize Y.reverse = y at hyl hy
  have hzl : (x ++ y.map (shift a.length)).length = x.length + y.length := by simp
  have hz1 : ∀ k, k < x.length → (x ++ y.map (shift a.length)).getD k (0, 0, 0, false) = x.getD k (0, 0, 0, false) := fun k hk => by
    rw [List.getD_eq_getElem?_getD, List.getElem?_append_left hk, ← List.getD_eq_getElem?_getD]
  have hz2 : ∀ k, x.length ≤ k → k < x.length + y.length → (x ++ y.map (shift a.length)).getD k (0, 0, 0, false) = shift a.length (y.getD (k - x.length) (0, 0, 0, false)) := fun k hk hk2 => by
    rw [List.getD_eq_getElem?_getD, List.getElem?_append_right hk, ← List.getD_eq_getElem?_getD, map_getD _ (0, 0, 0, false) _ (by omega)]
  refine Post.brF (by rw [wrap64 (by omega) (by omega)]; simp) (Post.altL (b := ()) ?_ (Post.pure rfl))
  refine count (L := fun s : List Int × List U × List U × List U × Int × Int => law19_LboneParts_L9 s.1 s.2.1 s.2.2.1 s.2.2.2.1 s.2.2.2.2.1 s.2.2.2.2.2) (x.length + y.length)
    (fun k => (a, x, y, x ++ y.map (shift a.length), ((x ++ y.map (shift a.length)).length : Int), (k : Int))) rfl (fun k hk => ?_) ?_
  · dsimp only
    unfold law19_LboneParts_L9
    have hk1 : IntKind.i64.wrap ((k : Int) + 1) = ((k + 1 : Nat) : Int) := by rw [wrap64 (by omega) (by omega)]; omega
    rw [hk1]
    refine Post.brT (decide_eq_true (by omega)) (Post.idx (0, 0, 0, false) k rfl (by omega) ?_)
    have one : ∀ {α : Type} (v : U) {f : U → Tr α} {Q : α → Prop}, Post (f v) Q → Post (.bnd (idx [v] 0) f) Q := fun {α} v {f Q} h => Post.bnd (show idx [v] 0 = some v from rfl) h
    refine Post.br (fun h => ?_) (fun h => ?_)
    · have h : k < x.length := by simpa using h
      refine one _ (Post.idx (0, 0, 0, false) k rfl h ?_)
      rw [hz1 k h]
      exact Post.brF (by simp) (Post.brF (decide_eq_false (by omega)) (Post.pure rfl))
    · have h : ¬ k < x.length := by simpa using h
      have hi : IntKind.i64.wrap ((k : Int) - (x.length : Int)) = ((k - x.length : Nat) : Int) := by rw [wrap64 (by omega) (by omega)]; omega
      refine Post.brT (decide_eq_true (by omega)) (Post.idx (0, 0, 0, false) (k - x.length) hi (by omega) ?_)
      rw [hz2 k (by omega) hk]
      have hu := hy (y.getD (k - x.length) (0, 0, 0, false)) (by
        have : k - x.length < y.length := by omega
        simp [List.getD, this])
      generalize y.getD (k - x.length) (0, 0, 0, false) = u at hu
      have b1 := hu.lo
      have b2 := hu.lt
      have b3 := hu.le
      refine one _ (one _ (one _ (one _ (one _ (one _ (Post.brF ?_ (Post.pure rfl)))))))
      rw [wrap64 (n := u.1 + (a.length : Int)) (by omega) (by omega), wrap64 (n := u.2.1 + (a.length : Int)) (by omega) (by omega)]
      simp [shift]
  · dsimp only
    unfold law19_LboneParts_L9
    exact Post.brF (decide_eq_false (by omega)) (Post.pure rfl)

theorem lboneMarks_all (x : Tys.I [.sl (.int .u8), .int .u8]) (h : WfAll [.sl (.int .u8), .int .u8] x) (hb : bulkAll [.sl (.int .u8), .int .u8] x ≤ 1048576) : law19_LboneMarks_F x.1 x.2.1 = some true := by
  simp only [bulkAll, bulk] at hb
  exact lboneMarks_F _ _ (by omega) (fun n hn => wf_u8 (h.1.2 n hn)) (wf_u8 h.2.1)
theorem lboneParts_all (x : Tys.I [.sl (.int .u8), .sl (.int .u8)]) (h : WfAll [.sl (.int .u8), .sl (.int .u8)] x) (hb : bulkAll [.sl (.int .u8), .sl (.int .u8)] x ≤ 1048576) : law19_LboneParts_F x.1 x.2.1 = some true := by
  simp only [bulkAll, bulk] at hb
  exact lboneParts_F _ _ (by omega) (by omega) (fun n hn => wf_u8 (h.1.2 n hn)) (fun n hn => wf_u8 (h.2.1.2 n hn))

end Go.Proofs.Yteldfdpjgpjafaa
