/-
  Parts of elder texts, cut out for the levels.
-/
import Derived.Test.YtggnnjofbknjjaaLawVis
namespace Go.Proofs.Ytggnnjofbknjjaa
set_option linter.all false
theorem shr32 {n : Int} (h0 : 0 ≤ n) (h1 : n < 4294967296) : shiftBy .shr .u64 n 32 = 0 := by
  have e : min (Int.toNat 32) IntKind.u64.bits = 32 := rfl
  show n.fdiv (2 ^ (Int.toNat 32)) = 0
  rw [show (2 : Int) ^ (Int.toNat 32) = 4294967296 from rfl, Int.fdiv_eq_ediv_of_nonneg _ (by omega)]
  omega
theorem low32 {n : Nat} (h1 : n < 4294967296) : ibits .and .u64 (n : Int) 4294967295 = (n : Int) := by
  have hw : ∀ m : Nat, m < 4294967296 → IntKind.u64.wrap (m : Int) = (m : Int) := fun m hm => by
    simp only [IntKind.wrap, IntKind.signed, IntKind.bits]
    simp
    omega
  unfold ibits
  dsimp only
  rw [BitVec.toNat_and]
  have a : (BitVec.ofInt IntKind.u64.bits (n : Int)).toNat = n := by
    simp only [IntKind.bits, BitVec.toNat_ofInt]
    omega
  have b : (BitVec.ofInt IntKind.u64.bits 4294967295).toNat = 2 ^ 32 - 1 := by
    simp only [IntKind.bits, BitVec.toNat_ofInt]
    rfl
  rw [a, b, Nat.and_two_pow_sub_one_eq_mod, Nat.mod_eq_of_lt (by omega)]
  exact hw n h1
theorem wrapu {n : Int} (h0 : 0 ≤ n) (h1 : n < 18446744073709551616) : IntKind.u64.wrap n = n := by
  simp only [IntKind.wrap, IntKind.signed, IntKind.bits]
  simp
  omega
theorem mul_F (n : Nat) (hn : n < 4294967296) : bits_Mul_F 1 (n : Int) = some (0, (n : Int)) := by
  have h : bits_Mul64_F 1 (n : Int) = some (0, (n : Int)) := by
    unfold bits_Mul64_F bits_Mul64_T
    have l1 : ibits .and .u64 1 4294967295 = 1 := by decide
    rw [shr32 (n := 1) (by omega) (by omega), shr32 (n := (n : Int)) (by omega) (by omega), low32 hn, l1]
    simp only [Int.zero_mul, Int.one_mul, Int.mul_zero]
    rw [wrapu (n := 0) (by omega) (by omega), wrapu (n := (n : Int)) (by omega) (by omega), shr32 (n := (n : Int)) (by omega) (by omega)]
    rfl
  unfold bits_Mul_F bits_Mul_T
  exact Post.run (Post.bnd h (Post.pure rfl))
theorem rep_loop (z : Int) (n : Nat) (hn : n ≤ 4194304) : ∀ (d m : Nat), n - m ≤ d → 1 ≤ m → m ≤ n → loopW (fun s : List Int × Int => (slices_Repeat___int_int__L8 s.1 s.2).run) (List.replicate m z ++ List.replicate (n - m) 0, (m : Int)) = some (List.replicate n z) := by
  intro d
  induction d with
  | zero =>
    intro m hd h1 h2
    have e : n = m := by omega
    subst e
    refine loopW_done (Post.run ?_)
    dsimp only
    unfold slices_Repeat___int_int__L8
    exact Post.brF (by simp) (Post.pure (by simp))
  | succ d ih =>
    intro m hd h1 h2
    by_cases e : n = m
    · subst e
      refine loopW_done (Post.run ?_)
      dsimp only
      unfold slices_Repeat___int_int__L8
      exact Post.brF (by simp) (Post.pure (by simp))
    · have hlen : (List.replicate m z ++ List.replicate (n - m) (0 : Int)).length = n := by simp; omega
      refine loopW_next (Post.run ?_) (ih (m + min m (n - m)) (by omega) (by omega) (by omega))
      dsimp only
      unfold slices_Repeat___int_int__L8
      rw [hlen]
      refine Post.brT (by rw [decide_eq_true_eq]; omega) (Post.bnd (b := List.replicate (n - m) 0) ?_ (Post.bnd (b := List.replicate m z) ?_ (Post.pure ?_)))
      · rw [cut_drop rfl rfl (by omega) (by omega), List.take_of_length_le (by omega)]
        simp
      · rw [cut_take rfl (by omega)]
        simp
      · have e1 : ((List.replicate m z ++ List.replicate (n - m) (0 : Int)).drop ((m : Int)).toNat).take (List.replicate (n - m) (0 : Int)).length = List.replicate (n - m) 0 := by simp
        rw [e1]
        simp only [List.length_replicate, List.take_replicate, List.drop_replicate]
        rw [wrap64 (by omega) (by omega), show (m : Int) + ((min m (n - m) : Nat) : Int) = ((m + min m (n - m) : Nat) : Int) by omega]
        congr 2
        unfold splice'
        rw [toNat_nat, List.take_left' (by simp), List.drop_eq_nil_of_le (by omega), List.append_nil, ← List.append_assoc, List.replicate_append_replicate, Nat.min_comm (n - m) m, show n - m - m = n - (m + min m (n - m)) by omega]
theorem repeat_F (z : Int) (n : Nat) (hn : n ≤ 4194304) : slices_Repeat___int_int__F [z] (n : Int) = some (List.replicate n z) := by
  unfold slices_Repeat___int_int__F slices_Repeat___int_int__T
  rw [wrapu (n := (n : Int)) (by omega) (by omega), show IntKind.u64.wrap (([z].length : Nat) : Int) = 1 from rfl]
  refine Post.run (Post.brF (by rw [decide_eq_false_iff_not]; omega) (Post.bnd (mul_F n (by omega)) (Post.brF rfl (Post.brF (by rw [decide_eq_false_iff_not]; dsimp only; omega) ?_))))
  dsimp only
  rw [wrap64 (by omega) (by omega)]
  refine Post.bnd (mk_eq rfl (by omega)) (Post.bnd (b := List.replicate n z) ?_ (Post.pure rfl))
  rw [List.length_replicate]
  cases n with
  | zero =>
    refine loopW_done (Post.run ?_)
    unfold slices_Repeat___int_int__L8
    exact Post.brF rfl (Post.pure rfl)
  | succ n =>
    have := rep_loop z (n + 1) hn (n + 1) 1 (by omega) (by omega) (by omega)
    refine Eq.trans ?_ this
    congr 1
    simp
def bk (n : Nat) : List Int → (Nat → Int) → Nat → Option (Nat → Int)
  | [], W, _ => some W
  | x :: r, W, k => if 0 ≤ x ∧ x < n ∧ W x.toNat = -1 then bk n r (fun i => if i = x.toNat then (k : Int) else W i) (k + 1) else none
theorem back_loop (n : Nat) (hn : n ≤ 4194304) (v : List Int) (hv : v.length ≤ 4194304) : ∀ (r : List Int) (W : Nat → Int) (k : Nat), k ≤ v.length → v.drop k = r →
    loopW (fun s : List Int × List Int × Int × Int => (order_Back_L3 s.1 s.2.1 s.2.2.1 s.2.2.2).run) (tab n W, v, (v.length : Int), (k : Int)) = some (match bk n r W k with | some W' => .inl (tab n W') | none => .inr false)
  | [], W, k, hk, hr => by
    have : v.length ≤ k := List.drop_eq_nil_iff.1 hr
    refine loopW_done (Post.run ?_)
    dsimp only
    unfold order_Back_L3
    exact Post.brF (by rw [decide_eq_false_iff_not]; omega) (Post.pure rfl)
  | x :: r, W, k, hk, hr => by
    have hk2 : k < v.length := by
      rcases Nat.lt_or_ge k v.length with h | h
      · exact h
      · rw [List.drop_eq_nil_of_le h] at hr; cases hr
    rw [drop_cons hk2] at hr
    injection hr with hx hr
    have hi : idx v (k : Int) = some x := by rw [idx_getD 0 rfl hk2, hx]
    by_cases h : 0 ≤ x ∧ x < n ∧ W x.toNat = -1
    · rw [show bk n (x :: r) W k = bk n r (fun i => if i = x.toNat then (k : Int) else W i) (k + 1) from if_pos h]
      refine loopW_next (Post.run ?_) (back_loop n hn v hv r _ (k + 1) hk2 hr)
      dsimp only
      unfold order_Back_L3
      rw [tab_len]
      refine Post.brT (by rw [decide_eq_true_eq]; omega) (Post.bnd hi (Post.brF (by rw [decide_eq_false_iff_not]; omega) (Post.brF (by rw [decide_eq_false_iff_not]; omega) (ptab x.toNat (by omega) (by omega) (Post.brF ?_ (ptab x.toNat (by omega) (by omega) (Post.pure ?_)))))))
      · rw [h.2.2]; rfl
      · rw [tab_set, wrap_succ (by omega)]
    · rw [show bk n (x :: r) W k = none from if_neg h]
      refine loopW_done (Post.run ?_)
      dsimp only
      unfold order_Back_L3
      rw [tab_len]
      refine Post.brT (by rw [decide_eq_true_eq]; omega) (Post.bnd hi (Post.br (fun _ => Post.pure rfl) (fun h1 => Post.br (fun _ => Post.pure rfl) (fun h2 => ?_))))
      rw [decide_eq_false_iff_not] at h1 h2
      refine ptab x.toNat (by omega) (by omega) (Post.brT ?_ (Post.pure rfl))
      rw [bne_iff_ne]
      intro h3
      exact h ⟨by omega, by omega, h3⟩
theorem back_F (v L : List Int) (hv : v.length ≤ 4194304) (hL : L.length ≤ 4194304) : order_Back_F v L = some (match bk L.length v (fun _ => -1) 0 with | some W => (tab L.length W, true) | none => ([], false)) := by
  unfold order_Back_F order_Back_T
  refine Post.run (Post.bnd (repeat_F (-1) L.length hL) ?_)
  rw [tab_rep]
  have h := back_loop L.length hL v hv v (fun _ => -1) 0 (by omega) rfl
  cases hb : bk L.length v (fun _ => -1) 0 with
  | some W =>
    rw [hb] at h
    exact Post.altL h (Post.pure rfl)
  | none =>
    rw [hb] at h
    exact Post.altR h (Post.pure rfl)
theorem bk_ok (n : Nat) : ∀ (r : List Int) (W : Nat → Int) (k : Nat), r.Nodup → (∀ x ∈ r, 0 ≤ x ∧ x < n ∧ W x.toNat = -1) →
    ∃ W', bk n r W k = some W' ∧ (∀ i : Nat, (i : Int) ∉ r → W' i = W i) ∧ ∀ (j : Nat) (x : Int), r[j]? = some x → W' x.toNat = ((k + j : Nat) : Int)
  | [], W, k, _, _ => ⟨W, rfl, fun _ _ => rfl, fun j x hj => by simp at hj⟩
  | x :: r, W, k, hd, h => by
    obtain ⟨hx, hd⟩ := List.nodup_cons.1 hd
    have h0 := h x (by simp)
    obtain ⟨W', h1, h2, h3⟩ := bk_ok n r (fun i => if i = x.toNat then (k : Int) else W i) (k + 1) hd (fun y hy => by
      have hy0 := h y (by simp [hy])
      refine ⟨hy0.1, hy0.2.1, ?_⟩
      rw [if_neg]
      · exact hy0.2.2
      · intro e
        have : y = x := by omega
        rw [this] at hy
        exact hx hy)
    refine ⟨W', by rw [show bk n (x :: r) W k = _ from if_pos h0]; exact h1, fun i hi => ?_, fun j y hj => ?_⟩
    · rw [h2 i (fun hm => hi (by simp [hm])), if_neg]
      intro e
      exact hi (by simp; left; omega)
    · cases j with
      | zero =>
        cases hj
        rw [h2 _ (fun hm => hx (by rwa [show ((x.toNat : Nat) : Int) = x by omega] at hm)), if_pos rfl]
        rfl
      | succ j =>
        rw [h3 j y hj]
        omega

end Go.Proofs.Ytggnnjofbknjjaa
