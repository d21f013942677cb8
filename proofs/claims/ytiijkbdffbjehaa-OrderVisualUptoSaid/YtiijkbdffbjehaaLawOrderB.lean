/-
  The laws of order: where each place stands; the laws.
-/
import Derived.Test.YtiijkbdffbjehaaLawOrder
namespace Go.Proofs.Ytiijkbdffbjehaa
set_option linter.all false

/-! ### slices.Repeat of one element -/
theorem shr32 {n : Int} (h0 : 0 ≤ n) (h1 : n < 4294967296) : shiftBy .shr .u64 n 32 = 0 := by
  have e : min (Int.toNat 32) IntKind.u64.bits = 32 := rfl
  show n.fdiv (2 ^ (Int.toNat 32)) = 0
  rw [show (2 : Int) ^ (Int.toNat 32) = 4294967296 from rfl, Int.fdiv_eq_ediv_of_nonneg _ (by omega)]
  omega
theorem low32 {n : Nat} (h1 : n < 4294967296) : ibits .and .u64 (n : Int) 4294967295 = (n : Int) := by
  have hw : ∀ m : Nat, m < 4294967296 → IntKind.u64.wrap (m : Int) = (m : Int) := fun m hm => by
    simp only [IntKind.wrap, IntKind.signed, IntKind.bits]
    simp
    omega
  unfold ibits
  dsimp only
  rw [BitVec.toNat_and]
  have a : (BitVec.ofInt IntKind.u64.bits (n : Int)).toNat = n := by
    simp only [IntKind.bits, BitVec.toNat_ofInt]
    omega
  have b : (BitVec.ofInt IntKind.u64.bits 4294967295).toNat = 2 ^ 32 - 1 := by
    simp only [IntKind.bits, BitVec.toNat_ofInt]
    rfl
  rw [a, b, Nat.and_two_pow_sub_one_eq_mod, Nat.mod_eq_of_lt (by omega)]
  exact hw n h1
theorem wrapu {n : Int} (h0 : 0 ≤ n) (h1 : n < 18446744073709551616) : IntKind.u64.wrap n = n := by
  simp only [IntKind.wrap, IntKind.signed, IntKind.bits]
  simp
  omega
theorem mul_F (n : Nat) (hn : n < 4294967296) : bits_Mul_F 1 (n : Int) = some (0, (n : Int)) := by
  have h : bits_Mul64_F 1 (n : Int) = some (0, (n : Int)) := by
    unfold bits_Mul64_F bits_Mul64_T
    have l1 : ibits .and .u64 1 4294967295 = 1 := by decide
    rw [shr32 (n := 1) (by omega) (by omega), shr32 (n := (n : Int)) (by omega) (by omega), low32 hn, l1]
    simp only [Int.zero_mul, Int.one_mul, Int.mul_zero]
    rw [wrapu (n := 0) (by omega) (by omega), wrapu (n := (n : Int)) (by omega) (by omega), shr32 (n := (n : Int)) (by omega) (by omega)]
    rfl
  unfold bits_Mul_F bits_Mul_T
  exact Post.run (Post.bnd h (Post.pure rfl))

theorem rep_loop (z : Int) (n : Nat) (hn : n ≤ 4194304) : ∀ (d m : Nat), n - m ≤ d → 1 ≤ m → m ≤ n → loopW (fun s : List Int × Int => (slices_Repeat___int_int__L8 s.1 s.2).run) (List.replicate m z ++ List.replicate (n - m) 0, (m : Int)) = some (List.replicate n z) := by
  intro d
  induction d with
  | zero =>
    intro m hd h1 h2
    have e : n = m := by omega
    subst e
    refine loopW_done (Post.run ?_)
    dsimp only
    unfold slices_Repeat___int_int__L8
    exact Post.brF (by simp) (Post.pure (by simp))
  | succ d ih =>
    intro m hd h1 h2
    by_cases e : n = m
    · subst e
      refine loopW_done (Post.run ?_)
      dsimp only
      unfold slices_Repeat___int_int__L8
      exact Post.brF (by simp) (Post.pure (by simp))
    · have hlen : (List.replicate m z ++ List.replicate (n - m) (0 : Int)).length = n := by simp; omega
      refine loopW_next (Post.run ?_) (ih (m + min m (n - m)) (by omega) (by omega) (by omega))
      dsimp only
      unfold slices_Repeat___int_int__L8
      rw [hlen]
      refine Post.brT (by rw [decide_eq_true_eq]; omega) (Post.bnd (b := List.replicate (n - m) 0) ?_ (Post.bnd (b := List.replicate m z) ?_ (Post.pure ?_)))
      · rw [cut_drop rfl rfl (by omega) (by omega), List.take_of_length_le (by omega)]
        simp
      · rw [cut_take rfl (by omega)]
        simp
      · have e1 : ((List.replicate m z ++ List.replicate (n - m) (0 : Int)).drop ((m : Int)).toNat).take (List.replicate (n - m) (0 : Int)).length = List.replicate (n - m) 0 := by simp
        rw [e1]
        simp only [List.length_replicate, List.take_replicate, List.drop_replicate]
        rw [wrap64 (by omega) (by omega), show (m : Int) + ((min m (n - m) : Nat) : Int) = ((m + min m (n - m) : Nat) : Int) by omega]
        congr 2
        unfold splice'
        rw [toNat_nat, List.take_left' (by simp), List.drop_eq_nil_of_le (by omega), List.append_nil, ← List.append_assoc, List.replicate_append_replicate, Nat.min_comm (n - m) m, show n - m - m = n - (m + min m (n - m)) by omega]

theorem repeat_F (z : Int) (n : Nat) (hn : n ≤ 4194304) : slices_Repeat___int_int__F [z] (n : Int) = some (List.replicate n z) := by
  unfold slices_Repeat___int_int__F slices_Repeat___int_int__T
  rw [wrapu (n := (n : Int)) (by omega) (by omega), show IntKind.u64.wrap (([z].length : Nat) : Int) = 1 from rfl]
  refine Post.run (Post.brF (by rw [decide_eq_false_iff_not]; omega) (Post.bnd (mul_F n (by omega)) (Post.brF rfl (Post.brF (by rw [decide_eq_false_iff_not]; dsimp only; omega) ?_))))
  dsimp only
  rw [wrap64 (by omega) (by omega)]
  refine Post.bnd (mk_eq rfl (by omega)) (Post.bnd (b := List.replicate n z) ?_ (Post.pure rfl))
  rw [List.length_replicate]
  cases n with
  | zero =>
    refine loopW_done (Post.run ?_)
    unfold slices_Repeat___int_int__L8
    exact Post.brF rfl (Post.pure rfl)
  | succ n =>
    have := rep_loop z (n + 1) hn (n + 1) 1 (by omega) (by omega) (by omega)
    refine Eq.trans ?_ this
    congr 1
    simp

/-! ### where each place stands -/
def bk (n : Nat) : List Int → (Nat → Int) → Nat → Option (Nat → Int)
  | [], W, _ => some W
  | x :: r, W, k => if 0 ≤ x ∧ x < n ∧ W x.toNat = -1 then bk n r (fun i => if i = x.toNat then (k : Int) else W i) (k + 1) else none

theorem back_loop (n : Nat) (hn : n ≤ 4194304) (v : List Int) (hv : v.length ≤ 4194304) : ∀ (r : List Int) (W : Nat → Int) (k : Nat), k ≤ v.length → v.drop k = r →
    loopW (fun s : List Int × List Int × Int × Int => (order_Back_L3 s.1 s.2.1 s.2.2.1 s.2.2.2).run) (tab n W, v, (v.length : Int), (k : Int)) = some (match bk n r W k with | some W' => .inl (tab n W') | none => .inr false)
  | [], W, k, hk, hr => by
    have : v.length ≤ k := List.drop_eq_nil_iff.1 hr
    refine loopW_done (Post.run ?_)
    dsimp only
    unfold order_Back_L3
    exact Post.brF (by rw [decide_eq_false_iff_not]; omega) (Post.pure rfl)
  | x :: r, W, k, hk, hr => by
    have hk2 : k < v.length := by
      rcases Nat.lt_or_ge k v.length with h | h
      · exact h
      · rw [List.drop_eq_nil_of_le h] at hr; cases hr
    rw [drop_cons hk2] at hr
    injection hr with hx hr
    have hi : idx v (k : Int) = some x := by rw [idx_getD 0 rfl hk2, hx]
    by_cases h : 0 ≤ x ∧ x < n ∧ W x.toNat = -1
    · rw [show bk n (x :: r) W k = bk n r (fun i => if i = x.toNat then (k : Int) else W i) (k + 1) from if_pos h]
      refine loopW_next (Post.run ?_) (back_loop n hn v hv r _ (k + 1) hk2 hr)
      dsimp only
      unfold order_Back_L3
      rw [tab_len]
      refine Post.brT (by rw [decide_eq_true_eq]; omega) (Post.bnd hi (Post.brF (by rw [decide_eq_false_iff_not]; omega) (Post.brF (by rw [decide_eq_false_iff_not]; omega) (ptab x.toNat (by omega) (by omega) (Post.brF ?_ (ptab x.toNat (by omega) (by omega) (Post.pure ?_)))))))
      · rw [h.2.2]; rfl
      · rw [tab_set, wrap_succ (by omega)]
    · rw [show bk n (x :: r) W k = none from if_neg h]
      refine loopW_done (Post.run ?_)
      dsimp only
      unfold order_Back_L3
      rw [tab_len]
      refine Post.brT (by rw [decide_eq_true_eq]; omega) (Post.bnd hi (Post.br (fun _ => Post.pure rfl) (fun h1 => Post.br (fun _ => Post.pure rfl) (fun h2 => ?_))))
      rw [decide_eq_false_iff_not] at h1 h2
      refine ptab x.toNat (by omega) (by omega) (Post.brT ?_ (Post.pure rfl))
      rw [bne_iff_ne]
      intro h3
      exact h ⟨by omega, by omega, h3⟩

theorem back_F (v L : List Int) (hv : v.length ≤ 4194304) (hL : L.length ≤ 4194304) : order_Back_F v L = some (match bk L.length v (fun _ => -1) 0 with | some W => (tab L.length W, true) | none => ([], false)) := by
  unfold order_Back_F order_Back_T
  refine Post.run (Post.bnd (repeat_F (-1) L.length hL) ?_)
  rw [tab_rep]
  have h := back_loop L.length hL v hv v (fun _ => -1) 0 (by omega) rfl
  cases hb : bk L.length v (fun _ => -1) 0 with
  | some W =>
    rw [hb] at h
    exact Post.altL h (Post.pure rfl)
  | none =>
    rw [hb] at h
    exact Post.altR h (Post.pure rfl)

theorem bk_ok (n : Nat) : ∀ (r : List Int) (W : Nat → Int) (k : Nat), r.Nodup → (∀ x ∈ r, 0 ≤ x ∧ x < n ∧ W x.toNat = -1) →
    ∃ W', bk n r W k = some W' ∧ (∀ i : Nat, (i : Int) ∉ r → W' i = W i) ∧ ∀ (j : Nat) (x : Int), r[j]? = some x → W' x.toNat = ((k + j : Nat) : Int)
  | [], W, k, _, _ => ⟨W, rfl, fun _ _ => rfl, fun j x hj => by simp at hj⟩
  | x :: r, W, k, hd, h => by
    obtain ⟨hx, hd⟩ := List.nodup_cons.1 hd
    have h0 := h x (by simp)
    obtain ⟨W', h1, h2, h3⟩ := bk_ok n r (fun i => if i = x.toNat then (k : Int) else W i) (k + 1) hd (fun y hy => by
      have hy0 := h y (by simp [hy])
      refine ⟨hy0.1, hy0.2.1, ?_⟩
      rw [if_neg]
      · exact hy0.2.2
      · intro e
        have : y = x := by omega
        rw [this] at hy
        exact hx hy)
    refine ⟨W', by rw [show bk n (x :: r) W k = _ from if_pos h0]; exact h1, fun i hi => ?_, fun j y hj => ?_⟩
    · rw [h2 i (fun hm => hi (by simp [hm])), if_neg]
      intro e
      exact hi (by simp; left; omega)
    · cases j with
      | zero =>
        cases hj
        rw [h2 _ (fun hm => hx (by rwa [show ((x.toNat : Nat) : Int) = x by omega] at hm)), if_pos rfl]
        rfl
      | succ j =>
        rw [h3 j y hj]
        omega

/-! ### what the laws ask -/
theorem same_F (a : List Int) (hn : a.length ≤ 4194304) : law25_Same_F a a = some true := by
  unfold law25_Same_F law25_Same_T
  refine Post.run (Post.brF (by simp) (Post.altL (b := ()) (count (L := fun s : List Int × List Int × Int => law25_Same_L4 s.1 s.2.1 s.2.2) a.length (fun k => (a, a, (k : Int))) rfl (fun k hk => ?_) ?_) (Post.pure rfl)))
  · dsimp only
    unfold law25_Same_L4
    refine Post.brT (by rw [decide_eq_true_eq]; omega) (Post.idx 0 k rfl hk (Post.idx 0 k rfl hk (Post.brF (by simp) (Post.pure (by rw [wrap_succ (by omega)])))))
  · dsimp only
    unfold law25_Same_L4
    exact Post.brF (by simp) (Post.pure rfl)
def lev (n : Int) : Int := if n % 8 = 7 then -1 else (n / 8) % 6
theorem levels_F (ns : List Int) (hn : ns.length ≤ 2097152) (h8 : ∀ n ∈ ns, 0 ≤ n ∧ n ≤ 255) : law12_Levels_F ns = some (ns.map lev) := by
  have e : ns.map lev = tab ns.length fun i => lev (ns.getD i 0) := tab_ext 0 (by simp) fun k hk => by rw [map_getD lev 0 0 hk]
  rw [e]
  unfold law12_Levels_F law12_Levels_T
  refine Post.run (Post.bnd (count (L := fun s : List Int × List Int × Int => law12_Levels_L3 s.1 s.2.1 s.2.2) ns.length (fun k => (ns, tab k fun i => lev (ns.getD i 0), (k : Int))) rfl (fun k hk => ?_) ?_) (Post.pure rfl))
  · have hm : 0 ≤ ns.getD k 0 ∧ ns.getD k 0 ≤ 255 := by
      refine h8 _ ?_
      simp [List.getD, hk]
    dsimp only
    unfold law12_Levels_L3
    refine Post.brT (by rw [decide_eq_true_eq]; omega) (Post.idx 0 k rfl hk ?_)
    rw [Int.tmod_eq_emod_of_nonneg hm.1, wrap_succ (by omega), ← tab_succ]
    by_cases h : ns.getD k 0 % 8 = 7
    · (first | refine Post.brT (by simp only [Bool.or_eq_true, Bool.and_eq_true, beq_iff_eq, bne_iff_ne, decide_eq_true_eq, ne_eq, Bool.not_eq_true', beq_eq_false_iff_ne, bne_eq_false_iff_eq, decide_eq_false_iff_not, Decidable.not_not, Bool.or_eq_false_iff, Bool.and_eq_false_iff, Bool.not_eq_false']; omega) ?_ | refine Post.brF (by simp only [Bool.or_eq_true, Bool.and_eq_true, beq_iff_eq, bne_iff_ne, decide_eq_true_eq, ne_eq, Bool.not_eq_true', beq_eq_false_iff_ne, bne_eq_false_iff_eq, decide_eq_false_iff_not, Decidable.not_not, Bool.or_eq_false_iff, Bool.and_eq_false_iff, Bool.not_eq_false']; omega) ?_)
      refine Post.bnd (app_eq (by rw [tab_len]; simp; omega)) (Post.pure ?_)
      rw [show lev (ns.getD k 0) = -1 from if_pos h]
    · (first | refine Post.brT (by simp only [Bool.or_eq_true, Bool.and_eq_true, beq_iff_eq, bne_iff_ne, decide_eq_true_eq, ne_eq, Bool.not_eq_true', beq_eq_false_iff_ne, bne_eq_false_iff_eq, decide_eq_false_iff_not, Decidable.not_not, Bool.or_eq_false_iff, Bool.and_eq_false_iff, Bool.not_eq_false']; omega) ?_ | refine Post.brF (by simp only [Bool.or_eq_true, Bool.and_eq_true, beq_iff_eq, bne_iff_ne, decide_eq_true_eq, ne_eq, Bool.not_eq_true', beq_eq_false_iff_ne, bne_eq_false_iff_eq, decide_eq_false_iff_not, Decidable.not_not, Bool.or_eq_false_iff, Bool.and_eq_false_iff, Bool.not_eq_false']; omega) ?_)
      refine Post.idx 0 k rfl hk (Post.bnd (app_eq (by rw [tab_len]; simp; omega)) (Post.pure ?_))
      rw [show lev (ns.getD k 0) = _ from if_neg h, Int.tdiv_eq_ediv_of_nonneg hm.1, wrapU8 (by omega) (by omega), wrap64 (by omega) (by omega), Int.tmod_eq_emod_of_nonneg (by omega)]
  · dsimp only
    unfold law12_Levels_L3
    exact Post.brF (by simp) (Post.pure rfl)
theorem awake25 : law25_awake_F = some true := by
  unfold law25_awake_F law25_awake_T
  have e1 : vis [0, 1, 1, 0] = [0, 2, 1, 3] := by decide
  have e2 : vis [1, 2, 2, 1] = [3, 1, 2, 0] := by decide
  refine Post.run (Post.bnd (visual_F _ (by simp)) (Post.bnd (visual_F _ (by simp)) (Post.bnd (back_F _ _ (by simp) (by simp)) ?_)))
  rw [e1, e2]
  exact Post.bnd (same_F _ (by simp)) (Post.brT rfl (Post.bnd (same_F _ (by simp)) (Post.brT rfl (Post.brT rfl (Post.bnd (show law25_Same_F _ [0, 2, 1] = some true from same_F [0, 2, 1] (by simp)) (Post.pure rfl))))))

theorem orderVisual_F (L ns : List Int) (hL : L.length ≤ 2097152) (hn : ns.length ≤ 2097152) (h8 : ∀ n ∈ ns, 0 ≤ n ∧ n ≤ 255) : law25_OrderVisual_F L ns = some true := by
  unfold law25_OrderVisual_F law25_OrderVisual_T
  have l1 := vis_len L
  have l2 := vis_len (ns.map lev)
  rw [List.length_map] at l2
  exact Post.run (Post.bnd awake25 (Post.brF rfl (Post.bnd (levels_F ns hn h8) (Post.bnd (visual_F L (by omega)) (Post.bnd (refVisual_F L (by omega)) (Post.bnd (same_F _ (by omega)) (Post.brT rfl
    (Post.bnd (visual_F _ (by rw [List.length_map]; omega)) (Post.bnd (refVisual_F _ (by rw [List.length_map]; omega)) (Post.bnd (same_F _ (by omega)) (Post.pure rfl)))))))))))
theorem orderVisual_all (x : Tys.I [.sl (.int .i64), .sl (.int .u8)]) (h : WfAll [.sl (.int .i64), .sl (.int .u8)] x) (hb : bulkAll [.sl (.int .i64), .sl (.int .u8)] x ≤ 1048576) : law25_OrderVisual_F x.1 x.2.1 = some true := by
  simp only [bulkAll, bulk] at hb
  exact orderVisual_F _ _ (by omega) (by omega) (fun n hn => wf_u8 (h.2.1.2 n hn))

/-! ### where each place stands, by the law's own walk -/
theorem lawBack_off (n : Nat) (hn : n ≤ 4194304) (l out : List Int) (ok : Bool) (W : List Int) (v : List Int) (hl : l.length = n) (hv : v.length ≤ 4194304) : ∀ d k : Nat, k + d = v.length →
    loopW (fun s : List Int × List Int × Bool × List Int × Bool × List Int × Int × Int => (law25_OrderBack_L13 s.1 s.2.1 s.2.2.1 s.2.2.2.1 s.2.2.2.2.1 s.2.2.2.2.2.1 s.2.2.2.2.2.2.1 s.2.2.2.2.2.2.2).run) (l, out, ok, W, false, v, (v.length : Int), (k : Int)) = some (out, ok, W, false) := by
  intro d
  induction d with
  | zero =>
    intro k hk
    refine loopW_done (Post.run ?_)
    dsimp only
    unfold law25_OrderBack_L13
    exact Post.brF (by rw [decide_eq_false_iff_not]; omega) (Post.pure rfl)
  | succ d ih =>
    intro k hk
    refine loopW_next (Post.run ?_) (ih (k + 1) (by omega))
    dsimp only
    unfold law25_OrderBack_L13
    refine Post.brT (by rw [decide_eq_true_eq]; omega) (Post.idx 0 k rfl (by omega) ?_)
    rw [wrap_succ (by omega)]
    exact Post.br (fun _ => Post.pure rfl) (fun _ => Post.br (fun _ => Post.pure rfl) (fun _ => Post.brF rfl (Post.brF rfl (Post.pure rfl))))

theorem lawBack_on (n : Nat) (hn : n ≤ 4194304) (l out : List Int) (ok : Bool) (v : List Int) (hl : l.length = n) (hv : v.length ≤ 4194304) : ∀ (r : List Int) (W : Nat → Int) (k : Nat), k ≤ v.length → v.drop k = r →
    ∃ W' : List Int, (∀ V, bk n r W k = some V → W' = tab n V) ∧ loopW (fun s : List Int × List Int × Bool × List Int × Bool × List Int × Int × Int => (law25_OrderBack_L13 s.1 s.2.1 s.2.2.1 s.2.2.2.1 s.2.2.2.2.1 s.2.2.2.2.2.1 s.2.2.2.2.2.2.1 s.2.2.2.2.2.2.2).run) (l, out, ok, tab n W, true, v, (v.length : Int), (k : Int)) = some (out, ok, W', (bk n r W k).isSome)
  | [], W, k, hk, hr => by
    have : v.length ≤ k := List.drop_eq_nil_iff.1 hr
    refine ⟨tab n W, fun V hV => by cases hV; rfl, loopW_done (Post.run ?_)⟩
    dsimp only
    unfold law25_OrderBack_L13
    exact Post.brF (by rw [decide_eq_false_iff_not]; omega) (Post.pure rfl)
  | x :: r, W, k, hk, hr => by
    have hk2 : k < v.length := by
      rcases Nat.lt_or_ge k v.length with h | h
      · exact h
      · rw [List.drop_eq_nil_of_le h] at hr; cases hr
    rw [drop_cons hk2] at hr
    injection hr with hx hr
    have hi : idx v (k : Int) = some x := by rw [idx_getD 0 rfl hk2, hx]
    have off := lawBack_off n hn l out ok (tab n W) v hl hv (v.length - (k + 1)) (k + 1) (by omega)
    by_cases h : 0 ≤ x ∧ x < n ∧ W x.toNat = -1
    · rw [show bk n (x :: r) W k = bk n r (fun i => if i = x.toNat then (k : Int) else W i) (k + 1) from if_pos h]
      obtain ⟨W', h1, h2⟩ := lawBack_on n hn l out ok v hl hv r (fun i => if i = x.toNat then (k : Int) else W i) (k + 1) hk2 hr
      refine ⟨W', h1, loopW_next (Post.run ?_) h2⟩
      dsimp only
      unfold law25_OrderBack_L13
      rw [hl]
      refine Post.brT (by rw [decide_eq_true_eq]; omega) (Post.bnd hi (Post.brF (by rw [decide_eq_false_iff_not]; omega) (Post.brF (by rw [decide_eq_false_iff_not]; omega) (Post.brT rfl (ptab x.toNat (by omega) (by omega) (Post.brF ?_ (Post.brT rfl (ptab x.toNat (by omega) (by omega) (Post.pure ?_)))))))))
      · rw [h.2.2]; rfl
      · rw [tab_set, wrap_succ (by omega)]
    · rw [show bk n (x :: r) W k = none from if_neg h]
      refine ⟨tab n W, (fun V hV => by cases hV), loopW_next (Post.run ?_) off⟩
      dsimp only
      unfold law25_OrderBack_L13
      rw [hl, wrap_succ (by omega)]
      refine Post.brT (by rw [decide_eq_true_eq]; omega) (Post.bnd hi (Post.br (fun _ => Post.pure rfl) (fun h1 => Post.br (fun _ => Post.pure rfl) (fun h2 => ?_))))
      rw [decide_eq_false_iff_not] at h1 h2
      refine Post.brT rfl (ptab x.toNat (by omega) (by omega) (Post.brT ?_ (Post.pure rfl)))
      rw [bne_iff_ne]
      intro h3
      exact h ⟨by omega, by omega, h3⟩

theorem orderBack_F (v ns : List Int) (hv : v.length ≤ 2097152) (hn : ns.length ≤ 2097152) (h8 : ∀ n ∈ ns, 0 ≤ n ∧ n ≤ 255) : law25_OrderBack_F v ns = some true := by
  unfold law25_OrderBack_F law25_OrderBack_T
  have hl : (ns.map lev).length = ns.length := by simp
  generalize hL : ns.map lev = L at hl
  refine Post.run (Post.bnd awake25 (Post.brF rfl (Post.bnd (by rw [← hL]; exact levels_F ns hn h8) (Post.bnd (back_F v L (by omega) (by omega)) (Post.bnd (mk_eq rfl (by omega)) ?_)))))
  generalize ho : (match bk L.length v (fun _ => -1) 0 with | some W => (tab L.length W, true) | none => (([] : List Int), false)) = o
  obtain ⟨out, ok⟩ := o
  dsimp only
  rw [List.length_replicate, tab_rep]
  refine Post.bnd (count (L := fun s : List Int × List Int × List Int × Bool × List Int × Int × Int => law25_OrderBack_L7 s.1 s.2.1 s.2.2.1 s.2.2.2.1 s.2.2.2.2.1 s.2.2.2.2.2.1 s.2.2.2.2.2.2) L.length (fun k => (v, L, out, ok, tab L.length (part (fun _ => -1) (fun _ => 0) k), (L.length : Int), (k : Int))) (r := (v, L, out, ok, tab L.length (fun _ => -1))) rfl (fun k hk => ?_) ?_) ?_
  · dsimp only
    unfold law25_OrderBack_L7
    refine Post.brT (by rw [decide_eq_true_eq]; omega) (ptab k rfl hk (Post.pure ?_))
    rw [toNat_nat, wrap_succ (by omega), part_set _ rfl]
  · dsimp only
    unfold law25_OrderBack_L7
    exact Post.brF (by simp) (Post.pure (by rw [part_end]))
  · dsimp only
    obtain ⟨W', h1, h2⟩ := lawBack_on L.length (by omega) L out ok v rfl (by omega) v (fun _ => -1) 0 (by omega) rfl
    refine Post.bnd h2 ?_
    dsimp only
    cases hb : bk L.length v (fun _ => -1) 0 with
    | none =>
      rw [hb] at ho
      cases ho
      exact Post.brT rfl (Post.brT rfl (Post.brT rfl (Post.pure rfl)))
    | some V =>
      rw [hb] at ho
      cases ho
      rw [h1 V hb]
      exact Post.brT rfl (Post.brF rfl (Post.brT rfl (Post.bnd (same_F _ (by rw [tab_len]; omega)) (Post.pure rfl))))
theorem orderBack_all (x : Tys.I [.sl (.int .i64), .sl (.int .u8)]) (h : WfAll [.sl (.int .i64), .sl (.int .u8)] x) (hb : bulkAll [.sl (.int .i64), .sl (.int .u8)] x ≤ 1048576) : law25_OrderBack_F x.1 x.2.1 = some true := by
  simp only [bulkAll, bulk] at hb
  exact orderBack_F _ _ (by omega) (by omega) (fun n hn => wf_u8 (h.2.1.2 n hn))

theorem orderBoth_F (ns : List Int) (hn : ns.length ≤ 2097152) (h8 : ∀ n ∈ ns, 0 ≤ n ∧ n ≤ 255) : law25_OrderBoth_F ns = some true := by
  unfold law25_OrderBoth_F law25_OrderBoth_T
  have hl : (ns.map lev).length = ns.length := by simp
  generalize hL : ns.map lev = L at hl
  have hvl := vis_len L
  have hmem := vis_mem L
  obtain ⟨W, w1, w2, w3⟩ := bk_ok L.length (vis L) (fun _ => -1) 0 (vis_nodup L) (fun x hx => by
    obtain ⟨k, h1, h2, _⟩ := (hmem x).1 hx
    exact ⟨by omega, by omega, rfl⟩)
  have hback := back_F (vis L) L (by omega) (by omega)
  rw [w1] at hback
  refine Post.run (Post.bnd awake25 (Post.brF rfl (Post.bnd (by rw [← hL]; exact levels_F ns hn h8) (Post.bnd (visual_F L (by omega)) (Post.bnd hback (Post.brF rfl ?_))))))
  dsimp only
  rw [tab_len]
  generalize hv : vis L = v at *
  refine Post.brF (by simp) (Post.altL (b := ()) (count (L := fun s : List Int × List Int × List Int × Int × Int => law25_OrderBoth_L9 s.1 s.2.1 s.2.2.1 s.2.2.2.1 s.2.2.2.2) L.length (fun k => (L, v, tab L.length W, (L.length : Int), (k : Int))) rfl (fun k hk => ?_) ?_) (Post.pure rfl))
  · dsimp only
    unfold law25_OrderBoth_L9
    rw [wrap_succ (by omega)]
    refine Post.brT (by rw [decide_eq_true_eq]; omega) (ptab k rfl hk (Post.idx 0 k rfl hk ?_))
    by_cases h : L.getD k 0 = -1
    · have hW : W k = -1 := w2 k fun hm => by
        obtain ⟨q, _, h2, h3⟩ := (hmem _).1 hm
        have : k = q := by omega
        subst this
        exact h3 h
      rw [hW, h]
      exact Post.brF rfl (Post.brF rfl (Post.pure rfl))
    · have hm : (k : Int) ∈ v := (hmem _).2 ⟨k, hk, rfl, h⟩
      obtain ⟨j, hj, hj2⟩ := List.mem_iff_getElem.1 hm
      have hW := w3 j (k : Int) (by rw [List.getElem?_eq_getElem hj, hj2])
      rw [toNat_nat, Nat.zero_add] at hW
      rw [hW]
      have e1 : (((j : Int) == -1) == (L.getD k 0 == -1)) = true := by
        rw [show ((j : Int) == -1) = false from beq_eq_false_iff_ne.2 (by omega), show (L.getD k 0 == -1) = false from beq_eq_false_iff_ne.2 h]; rfl
      refine Post.brF (by rw [e1]; rfl) (Post.brT (by rw [bne_iff_ne]; omega) (Post.brF (by rw [decide_eq_false_iff_not]; omega) (Post.brF (by rw [decide_eq_false_iff_not]; omega) (Post.bnd (idx_get rfl hj) (Post.brF ?_ (Post.pure rfl))))))
      rw [hj2]; simp
  · dsimp only
    unfold law25_OrderBoth_L9
    exact Post.brF (by simp) (Post.pure rfl)
theorem orderBoth_all (x : Tys.I [.sl (.int .u8)]) (h : WfAll [.sl (.int .u8)] x) (hb : bulkAll [.sl (.int .u8)] x ≤ 1048576) : law25_OrderBoth_F x.1 = some true := by
  simp only [bulkAll, bulk] at hb
  exact orderBoth_F _ (by omega) (fun n hn => wf_u8 (h.1.2 n hn))

/-! ### levels that are all two more; of one level -/
theorem lev_range (n : Int) : -1 ≤ lev n ∧ lev n ≤ 5 := by unfold lev; split <;> omega
theorem vl_more (L : List Int) : ∀ (d t : Nat) (v : List Int), (∀ x ∈ v, L.getD x.toNat 0 ≤ t) → vl L (t + d) v = vl L t v
  | 0, _, _, _ => rfl
  | d + 1, t, v, h => by
    show vl L (t + d) (rr (at_ L ((t + d + 1 : Nat) : Int)) [] v) = _
    rw [rr_none fun x hx => ?_]
    · exact vl_more L d t v h
    · have := h x hx
      unfold at_
      rw [decide_eq_false_iff_not]; omega
/-- the turning may begin at any level above all -/
theorem vis_from (L : List Int) (M : Nat) (hM : ∀ k, k < L.length → L.getD k 0 ≤ M) (h126 : M ≤ 126) : vis L = vl L M (places (fun i => L.getD i 0) L.length) := by
  have ht := tp_range (fun i => L.getD i 0) L.length
  have hle : tp (fun i => L.getD i 0) L.length ≤ M := by
    have key : ∀ n, n ≤ L.length → tp (fun i => L.getD i 0) n ≤ M := by
      intro n
      induction n with
      | zero => intro _; simp [tp]
      | succ n ih =>
        intro hn
        have h1 := hM n (by omega)
        have h2 := ih (by omega)
        unfold tp
        repeat' split
        all_goals omega
    exact key _ (by omega)
  unfold vis
  have e : M = (tp (fun i => L.getD i 0) L.length).toNat + (M - (tp (fun i => L.getD i 0) L.length).toNat) := by omega
  rw [e, vl_more]
  intro x hx
  obtain ⟨k, h1, h2, h3⟩ := (places_mem _ _ x).1 hx
  have h4 := tp_ge (fun i => L.getD i 0) L.length k h1 h3 (by have := hM k h1; omega)
  rw [h2, toNat_nat]
  omega
theorem vl_two (A C : List Int) : ∀ (l : Nat) (v : List Int), (∀ x ∈ v, 0 ≤ A.getD x.toNat 0 ∧ C.getD x.toNat 0 = A.getD x.toNat 0 + 2) → vl C (l + 2) v = vl A l v
  | 0, v, h => by
    show rr (at_ C 1) [] (rr (at_ C 2) [] v) = v
    have h2 : ∀ x ∈ v, at_ C 2 x = true := fun x hx => by have := h x hx; unfold at_; rw [decide_eq_true_eq]; omega
    rw [rr_all h2, rr_all (fun x hx => ?_), List.reverse_reverse]
    have := h x (List.mem_reverse.1 hx)
    unfold at_; rw [decide_eq_true_eq]; omega
  | l + 1, v, h => by
    show vl C (l + 2) (rr (at_ C ((l + 2 + 1 : Nat) : Int)) [] v) = vl A l (rr (at_ A ((l + 1 : Nat) : Int)) [] v)
    have hc : rr (at_ C ((l + 2 + 1 : Nat) : Int)) [] v = rr (at_ A ((l + 1 : Nat) : Int)) [] v := rr_congr fun x hx => by
      have := h x hx
      unfold at_
      rw [Bool.eq_iff_iff, decide_eq_true_eq, decide_eq_true_eq]; omega
    rw [hc]
    exact vl_two A C l _ fun x hx => h x (by simpa using (rr_perm v []).mem_iff.1 hx)
theorem places_congr {g h : Nat → Int} : ∀ {n : Nat}, (∀ k, k < n → (g k = -1 ↔ h k = -1)) → places g n = places h n
  | 0, _ => rfl
  | n + 1, e => by
    unfold places
    rw [places_congr fun k hk => e k (by omega)]
    by_cases h1 : g n = -1
    · rw [if_pos h1, if_pos ((e n (by omega)).1 h1)]
    · rw [if_neg h1, if_neg (fun h2 => h1 ((e n (by omega)).2 h2))]
theorem vl_const (L : List Int) (c : Nat) : ∀ (l : Nat) (v : List Int), l ≤ c → (∀ x ∈ v, L.getD x.toNat 0 = c) → vl L l v = if l % 2 = 0 then v else v.reverse
  | 0, _, _, _ => rfl
  | l + 1, v, hl, h => by
    show vl L l (rr (at_ L ((l + 1 : Nat) : Int)) [] v) = _
    rw [rr_all fun x hx => ?_, vl_const L c l v.reverse (by omega) fun x hx => h x (List.mem_reverse.1 hx)]
    · by_cases e : l % 2 = 0
      · rw [if_pos e, if_neg (by omega)]
      · rw [if_neg e, if_pos (by omega), List.reverse_reverse]
    · have := h x hx
      unfold at_
      rw [decide_eq_true_eq]; omega
theorem places_all (g : Nat → Int) : ∀ n, (∀ k, k < n → g k ≠ -1) → places g n = tab n (fun k => (k : Int))
  | 0, _ => rfl
  | n + 1, h => by
    unfold places
    rw [if_neg (h n (by omega)), places_all g n fun k hk => h k (by omega), tab_succ]

theorem orderTwo_F (ns : List Int) (level : Int) (hn : ns.length ≤ 2097152) (h8 : ∀ n ∈ ns, 0 ≤ n ∧ n ≤ 255) (hl0 : 0 ≤ level) : law25_OrderTwo_F ns level = some true := by
  unfold law25_OrderTwo_F law25_OrderTwo_T
  have hl : (ns.map lev).length = ns.length := by simp
  have hr : ∀ k, -1 ≤ (ns.map lev).getD k 0 ∧ (ns.map lev).getD k 0 ≤ 5 := fun k => by
    by_cases hk : k < ns.length
    · rw [map_getD lev 0 0 hk]; exact lev_range _
    · rw [getD_len (by omega)]; omega
  have hlev := levels_F ns hn h8
  generalize hL : ns.map lev = L at hl hr hlev
  have hm : level.tmod 127 = level % 127 := Int.tmod_eq_emod_of_nonneg hl0
  have hm2 : (level % 127).tmod 2 = level % 127 % 2 := Int.tmod_eq_emod_of_nonneg (by omega)
  refine Post.run (Post.bnd awake25 (Post.brF rfl (Post.bnd hlev (Post.bnd (mk_eq rfl (by omega)) (Post.bnd (mk_eq rfl (by omega)) ?_)))))
  rw [tab_rep]
  refine Post.bnd (count (L := fun s : Int × List Int × List Int × List Int × Int × Int => law25_OrderTwo_L7 s.1 s.2.1 s.2.2.1 s.2.2.2.1 s.2.2.2.2.1 s.2.2.2.2.2) L.length (fun k => (level, L, tab L.length (part (fun i => if L.getD i 0 = -1 then -1 else L.getD i 0 + 2) (fun _ => 0) k), tab L.length (part (fun _ => level % 127) (fun _ => 0) k), (L.length : Int), (k : Int)))
    (r := (level, L, tab L.length (fun i => if L.getD i 0 = -1 then -1 else L.getD i 0 + 2), tab L.length (fun _ => level % 127))) rfl (fun k hk => ?_) ?_) ?_
  · dsimp only
    have := hr k
    unfold law25_OrderTwo_L7
    rw [hm, wrap64 (n := level % 127) (by omega) (by omega), toNat_nat, wrap_succ (by omega)]
    refine Post.brT (by rw [decide_eq_true_eq]; omega) (Post.idx 0 k rfl hk (ptab k rfl hk (Post.idx 0 k rfl hk ?_)))
    by_cases h : L.getD k 0 = -1
    · refine Post.brF (by rw [bne_eq_false_iff_eq]; exact h) (ptab k rfl hk (Post.pure ?_))
      rw [part_set (m := fun i => if L.getD i 0 = -1 then -1 else L.getD i 0 + 2) _ ((if_pos h).trans h.symm), part_set (m := fun _ => level % 127) _ rfl]
    · refine Post.brT (by rw [bne_iff_ne]; exact h) (Post.idx 0 k rfl hk (Post.bnd (idx_set_at (by omega) (by rw [tab_len]; omega)) (ptab k rfl hk (Post.pure ?_))))
      rw [List.set_set, wrap64 (by omega) (by omega), part_set (m := fun i => if L.getD i 0 = -1 then -1 else L.getD i 0 + 2) _ (if_neg h), part_set (m := fun _ => level % 127) _ rfl]
  · dsimp only
    unfold law25_OrderTwo_L7
    exact Post.brF (by simp) (Post.pure (by rw [part_end, part_end]))
  · dsimp only
    have gD : ∀ (q : Nat → Int) k, k < L.length → (tab L.length q).getD k 0 = q k := fun q k hk => tab_getD q 0 hk
    have vc : vis (tab L.length fun _ => level % 127) = if level % 127 % 2 = 0 then tab L.length (fun k => (k : Int)) else (tab L.length (fun k => (k : Int))).reverse := by
      rw [vis_from _ (level % 127).toNat (fun k hk => by rw [tab_len] at hk; rw [gD _ k hk]; omega) (by omega), tab_len, places_all _ _ (fun k hk => by rw [gD _ k hk]; omega), vl_const _ (level % 127).toNat _ _ (Nat.le_refl _) (fun x hx => ?_)]
      · by_cases e : level % 127 % 2 = 0
        · rw [if_pos e, if_pos (by omega)]
        · rw [if_neg e, if_neg (by omega)]
      · obtain ⟨k, hk, rfl⟩ := List.mem_map.1 hx
        rw [toNat_nat, gD _ k (List.mem_range.1 hk)]; omega
    have vcl : (vis (tab L.length fun _ => level % 127)).length = L.length := by
      rw [vc]; split
      · rw [tab_len]
      · rw [List.length_reverse, tab_len]
    refine Post.bnd (visual_F _ (by rw [tab_len]; omega)) ?_
    have vcg : ∀ k, k < L.length → (vis (tab L.length fun _ => level % 127)).getD k 0 = if level % 127 % 2 = 0 then (k : Int) else ((L.length : Int) - 1 - k) := by
      intro k hk
      rw [vc]
      split
      · rw [gD _ k hk]
      · rw [getD_reverse 0 (by rw [tab_len]; exact hk), tab_len, gD _ _ (by omega)]; omega
    generalize vis (tab L.length fun _ => level % 127) = v at *
    rw [vcl]
    refine Post.altL (count (L := fun s : Int × List Int × List Int × List Int × List Int × Int × Int => law25_OrderTwo_L16 s.1 s.2.1 s.2.2.1 s.2.2.2.1 s.2.2.2.2.1 s.2.2.2.2.2.1 s.2.2.2.2.2.2) L.length (fun k => (level, L, tab L.length (fun i => if L.getD i 0 = -1 then -1 else L.getD i 0 + 2), tab L.length (fun _ => level % 127), v, (L.length : Int), (k : Int)))
      (r := .inl (L, tab L.length (fun i => if L.getD i 0 = -1 then -1 else L.getD i 0 + 2), tab L.length (fun _ => level % 127), v)) rfl (fun k hk => ?_) ?_) ?_
    · dsimp only
      have hg := vcg k hk
      unfold law25_OrderTwo_L16
      rw [hm, hm2, tab_len, wrap_succ (by omega), wrap64 (n := (L.length : Int) - 1) (by omega) (by omega), wrap64 (n := (L.length : Int) - 1 - k) (by omega) (by omega)]
      refine Post.brT (by rw [decide_eq_true_eq]; omega) (Post.idx 0 k rfl (by omega) ?_)
      by_cases e : level % 127 % 2 = 0
      · rw [if_pos e] at hg
        exact Post.brT (by rw [beq_iff_eq]; exact e) (Post.brF (by rw [bne_eq_false_iff_eq]; exact hg) (Post.brF (by rw [beq_eq_false_iff_ne]; omega) (Post.pure rfl)))
      · rw [if_neg e] at hg
        exact Post.brF (by rw [beq_eq_false_iff_ne]; exact e) (Post.brT (by rw [beq_iff_eq]; omega) (Post.brF (by rw [bne_eq_false_iff_eq]; exact hg) (Post.pure rfl)))
    · dsimp only
      unfold law25_OrderTwo_L16
      exact Post.brF (by simp) (Post.pure rfl)
    · dsimp only
      have e2 : vis (tab L.length (fun i => if L.getD i 0 = -1 then -1 else L.getD i 0 + 2)) = vis L := by
        rw [vis_from L 5 (fun k _ => (hr k).2) (by omega), vis_from _ 7 (fun k hk => by rw [tab_len] at hk; rw [gD _ k hk]; have := hr k; split <;> omega) (by omega), tab_len]
        rw [places_congr (h := fun i => L.getD i 0) fun k hk => ?_]
        · refine vl_two L _ 5 _ fun x hx => ?_
          obtain ⟨k, hk, rfl, hne⟩ := (places_mem _ _ x).1 hx
          rw [toNat_nat, gD _ k hk]
          have := hr k
          rw [if_neg hne]
          omega
        · rw [gD _ k hk]
          have := hr k
          constructor
          · intro h
            split at h <;> omega
          · intro h
            rw [if_pos h]
      refine Post.brT (by rw [vcl, tab_len]; simp) (Post.bnd (visual_F L (by omega)) (Post.bnd (visual_F _ (by rw [tab_len]; omega)) ?_))
      rw [e2]
      exact Post.bnd (same_F _ (by have := vis_len L; omega)) (Post.pure rfl)
theorem orderTwo_all (x : Tys.I [.sl (.int .u8), .int .u8]) (h : WfAll [.sl (.int .u8), .int .u8] x) (hb : bulkAll [.sl (.int .u8), .int .u8] x ≤ 1048576) : law25_OrderTwo_F x.1 x.2.1 = some true := by
  simp only [bulkAll, bulk] at hb
  exact orderTwo_F _ _ (by omega) (fun n hn => wf_u8 (h.1.2 n hn)) (wf_u8 h.2.1).1

/-! ### a line is cut at a place of level 0 -/
theorem vl_cut (L A C : List Int) (f : Int → Int) (x : Int) (hx : L.getD x.toNat 0 = 0) : ∀ (l : Nat) (u w : List Int), (∀ y ∈ u, L.getD y.toNat 0 = A.getD y.toNat 0) → (∀ y ∈ w, L.getD (f y).toNat 0 = C.getD y.toNat 0) →
    vl L l (u ++ x :: w.map f) = vl A l u ++ x :: (vl C l w).map f
  | 0, _, _, _, _ => rfl
  | l + 1, u, w, hu, hw => by
    show vl L l (rr (at_ L ((l + 1 : Nat) : Int)) [] (u ++ x :: w.map f)) = vl A l (rr (at_ A ((l + 1 : Nat) : Int)) [] u) ++ x :: (vl C l (rr (at_ C ((l + 1 : Nat) : Int)) [] w)).map f
    have h1 : at_ L ((l + 1 : Nat) : Int) x = false := by unfold at_; rw [decide_eq_false_iff_not, hx]; omega
    have h2 : rr (at_ L ((l + 1 : Nat) : Int)) [] u = rr (at_ A ((l + 1 : Nat) : Int)) [] u := rr_congr fun y hy => by unfold at_; rw [hu y hy]
    have h3 : rr (at_ L ((l + 1 : Nat) : Int)) [] (w.map f) = (rr (at_ C ((l + 1 : Nat) : Int)) [] w).map f := by
      have := rr_map (p := at_ L ((l + 1 : Nat) : Int)) f w []
      rw [List.map_nil] at this
      rw [this]
      congr 1
      exact rr_congr fun y hy => by unfold at_; rw [hw y hy]
    rw [rr_cut h1, h2, h3]
    exact vl_cut L A C f x hx l _ _ (fun y hy => hu y (by simpa using (rr_perm u []).mem_iff.1 hy)) (fun y hy => hw y (by simpa using (rr_perm w []).mem_iff.1 hy))
theorem places_succ (g : Nat → Int) (k : Nat) : places g (k + 1) = if g k = -1 then places g k else places g k ++ [(k : Int)] := rfl
theorem places_app (g h : Nat → Int) (n : Nat) : ∀ m, (∀ j, j < m → h j = g (n + j)) → places g (n + m) = places g n ++ (places h m).map (fun x : Int => x + (n : Int))
  | 0, _ => by simp [places]
  | m + 1, e => by
    rw [show n + (m + 1) = (n + m) + 1 from rfl, places_succ, places_succ, places_app g h n m fun j hj => e j (by omega), e m (by omega)]
    by_cases hg : g (n + m) = -1
    · rw [if_pos hg, if_pos hg]
    · rw [if_neg hg, if_neg hg, List.map_append, List.append_assoc]
      congr 3
      simp; omega

theorem orderParts_F (ns ms : List Int) (hn : ns.length ≤ 1048576) (hm : ms.length ≤ 1048576) (h8 : ∀ n ∈ ns, 0 ≤ n ∧ n ≤ 255) (k8 : ∀ n ∈ ms, 0 ≤ n ∧ n ≤ 255) : law25_OrderParts_F ns ms = some true := by
  unfold law25_OrderParts_F law25_OrderParts_T
  have mk : ∀ q : List Int, ∀ k, (q.map lev).getD k 0 ≤ 5 := fun q k => by
    by_cases hk : k < q.length
    · rw [map_getD lev 0 0 hk]; exact (lev_range _).2
    · rw [getD_len (by rw [List.length_map]; omega)]; omega
  have ha := mk ns
  have hc := mk ms
  have la : (ns.map lev).length = ns.length := by simp
  have lc : (ms.map lev).length = ms.length := by simp
  have fa := levels_F ns (by omega) h8
  have fc := levels_F ms (by omega) k8
  generalize ns.map lev = A at *
  generalize ms.map lev = C at *
  have va := vis_len A
  have vcl := vis_len C
  have lall : (A ++ [0] ++ C).length = A.length + (1 + C.length) := by simp; omega
  have g1 : ∀ k, k < A.length → (A ++ [0] ++ C).getD k 0 = A.getD k 0 := fun k hk => by rw [List.append_assoc, getD_append, if_pos hk]
  have g2 : (A ++ [0] ++ C).getD A.length 0 = 0 := by simp [List.getD]
  have g3 : ∀ k, (A ++ [0] ++ C).getD (A.length + 1 + k) 0 = C.getD k 0 := fun k => by
    rw [getD_append, if_neg (by simp), List.length_append, List.length_singleton]
    congr 1; omega
  have hall : vis (A ++ [0] ++ C) = vis A ++ (A.length : Int) :: (vis C).map (fun x => x + ((A.length + 1 : Nat) : Int)) := by
    rw [vis_from A 5 (fun k _ => ha k) (by omega), vis_from C 5 (fun k _ => hc k) (by omega), vis_from (A ++ [0] ++ C) 5 (fun k hk => ?_) (by omega)]
    · have hpa := places_app (fun i => (A ++ [0] ++ C).getD i 0) (fun i => C.getD i 0) (A.length + 1) C.length (fun j _ => (g3 j).symm)
      rw [lall, ← Nat.add_assoc, hpa]
      have e : places (fun i => (A ++ [0] ++ C).getD i 0) (A.length + 1) = places (fun i => A.getD i 0) A.length ++ [(A.length : Int)] := by
        rw [places_succ, if_neg (by rw [g2]; omega)]
        rw [places_congr (h := fun i => A.getD i 0) fun k hk => by rw [g1 k hk]]
      rw [e, List.append_assoc (places (fun i => A.getD i 0) A.length), List.singleton_append]
      refine vl_cut _ A C _ _ (by rw [toNat_nat]; exact g2) 5 _ _ (fun y hy => ?_) (fun y hy => ?_)
      · obtain ⟨k, hk, rfl, _⟩ := (places_mem _ _ y).1 hy
        rw [toNat_nat]; exact g1 k hk
      · obtain ⟨k, hk, rfl, _⟩ := (places_mem _ _ y).1 hy
        rw [toNat_nat, show ((k : Int) + ((A.length + 1 : Nat) : Int)).toNat = A.length + 1 + k by omega]
        exact g3 k
    · rw [lall] at hk
      by_cases h1 : k < A.length
      · rw [g1 k h1]; exact ha k
      · by_cases h2 : k = A.length
        · rw [h2, g2]; omega
        · have := g3 (k - (A.length + 1))
          rw [show A.length + 1 + (k - (A.length + 1)) = k by omega] at this
          rw [this]; exact hc _
  refine Post.run (Post.bnd awake25 (Post.brF rfl (Post.bnd fa (Post.bnd fc (Post.bnd (app_eq (by simp; omega)) (Post.bnd (app_eq (by simp; omega)) (Post.bnd (app_eq (by simp; omega)) (Post.bnd (visual_F A (by omega)) (Post.bnd (app_eq (by simp; omega)) (Post.bnd (app_eq (by simp; omega)) (Post.bnd (visual_F C (by omega)) ?_)))))))))))
  rw [List.nil_append, List.nil_append]
  generalize hV : vis C = V at *
  have hvv : ∀ x ∈ V, 0 ≤ x ∧ x < C.length := fun x hx => by
    rw [← hV] at hx
    obtain ⟨k, h1, h2, _⟩ := (vis_mem C x).1 hx
    omega
  refine Post.bnd (count (L := fun s : List Int × List Int × List Int × List Int × Int × Int => law25_OrderParts_L7 s.1 s.2.1 s.2.2.1 s.2.2.2.1 s.2.2.2.2.1 s.2.2.2.2.2) V.length (fun k => (A, A ++ [0] ++ C, (vis A ++ [(A.length : Int)]) ++ (V.take k).map (fun x => x + ((A.length + 1 : Nat) : Int)), V, (V.length : Int), (k : Int))) (r := (A ++ [0] ++ C, (vis A ++ [(A.length : Int)]) ++ V.map (fun x => x + ((A.length + 1 : Nat) : Int)))) (by simp) (fun k hk => ?_) ?_) ?_
  · dsimp only
    have hx := hvv (V.getD k 0) (by simp [List.getD, hk])
    unfold law25_OrderParts_L7
    refine Post.brT (by rw [decide_eq_true_eq]; omega) (Post.idx 0 k rfl hk ?_)
    rw [wrap_succ (by omega), wrap_succ (by omega), wrap64 (by omega) (by omega)]
    refine Post.bnd (app_eq (by simp; omega)) (Post.pure ?_)
    rw [show V.take (k + 1) = V.take k ++ [V.getD k 0] by rw [List.take_succ]; simp [List.getD, hk], List.map_append, List.append_assoc (vis A ++ [(A.length : Int)])]
    congr 5
    simp; omega
  · dsimp only
    unfold law25_OrderParts_L7
    exact Post.brF (by simp) (Post.pure (by rw [List.take_of_length_le (Nat.le_refl _)]))
  · dsimp only
    refine Post.bnd (visual_F _ (by omega)) ?_
    rw [hall, List.append_assoc (vis A), List.singleton_append]
    exact Post.bnd (same_F _ (by simp; omega)) (Post.pure rfl)
theorem orderParts_all (x : Tys.I [.sl (.int .u8), .sl (.int .u8)]) (h : WfAll [.sl (.int .u8), .sl (.int .u8)] x) (hb : bulkAll [.sl (.int .u8), .sl (.int .u8)] x ≤ 1048576) : law25_OrderParts_F x.1 x.2.1 = some true := by
  simp only [bulkAll, bulk] at hb
  exact orderParts_F _ _ (by omega) (by omega) (fun n hn => wf_u8 (h.1.2 n hn)) (fun n hn => wf_u8 (h.2.1.2 n hn))

end Go.Proofs.Ytiijkbdffbjehaa
