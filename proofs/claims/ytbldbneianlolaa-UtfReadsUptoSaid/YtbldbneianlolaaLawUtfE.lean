/-
  The laws of utf return true: which bytes begin a scalar's.
-/
import Derived.Test.YtbldbneianlolaaLawUtfD
namespace Go.Proofs.Ytbldbneianlolaa
set_option linter.all false

theorem l17_3 (b : List Int) (lo : Int) : loopW (fun s : List Int × Int × Int × Int × Int => (ref01_begins_L17 s.1 s.2.1 s.2.2.1 s.2.2.2.1 s.2.2.2.2).run) (b, 3, lo, 1, 1) = some (b, 3, lo, 4096) := by
  have a1 : IntKind.i64.wrap (1 * 64) = 64 := by decide
  have b1 : IntKind.i64.wrap (1 + 1) = 2 := by decide
  have a2 : IntKind.i64.wrap (64 * 64) = 4096 := by decide
  have b2 : IntKind.i64.wrap (2 + 1) = 3 := by decide
  refine loopW_next (s' := (b, 3, lo, 64, 2)) (Post.run (Post.brT rfl (Post.pure ?_))) (loopW_next (s' := (b, 3, lo, 4096, 3)) (Post.run (Post.brT rfl (Post.pure ?_))) (loopW_done (Post.run (Post.brF rfl (Post.pure rfl)))))
  · dsimp only; rw [a1, b1]
  · dsimp only; rw [a2, b2]
theorem l17_4 (b : List Int) (lo : Int) : loopW (fun s : List Int × Int × Int × Int × Int => (ref01_begins_L17 s.1 s.2.1 s.2.2.1 s.2.2.2.1 s.2.2.2.2).run) (b, 4, lo, 1, 1) = some (b, 4, lo, 262144) := by
  have a1 : IntKind.i64.wrap (1 * 64) = 64 := by decide
  have b1 : IntKind.i64.wrap (1 + 1) = 2 := by decide
  have a2 : IntKind.i64.wrap (64 * 64) = 4096 := by decide
  have b2 : IntKind.i64.wrap (2 + 1) = 3 := by decide
  have a3 : IntKind.i64.wrap (4096 * 64) = 262144 := by decide
  have b3 : IntKind.i64.wrap (3 + 1) = 4 := by decide
  refine loopW_next (s' := (b, 4, lo, 64, 2)) (Post.run (Post.brT rfl (Post.pure ?_))) (loopW_next (s' := (b, 4, lo, 4096, 3)) (Post.run (Post.brT rfl (Post.pure ?_))) (loopW_next (s' := (b, 4, lo, 262144, 4)) (Post.run (Post.brT rfl (Post.pure ?_))) (loopW_done (Post.run (Post.brF rfl (Post.pure rfl))))))
  · dsimp only; rw [a1, b1]
  · dsimp only; rw [a2, b2]
  · dsimp only; rw [a3, b3]

noncomputable abbrev bLoop : List Int × Int × Int × Int × Int → Option (Sum (Int × Int × Int) Bool) := loopW (fun s => (ref01_begins_L21 s.1 s.2.1 s.2.2.1 s.2.2.2.1 s.2.2.2.2).run)
theorem l21_bad {b : List Int} {n lo size k c : Int} (hi : idx b k = some c) (hk : k < b.length) (h : c < 128 ∨ 192 ≤ c) : bLoop (b, n, lo, size, k) = some (.inr false) := by
  refine loopW_done (Post.run ?_)
  dsimp only
  unfold ref01_begins_L21
  exact Post.brT (decide_eq_true hk) (Post.bnd hi (Post.bnd (tail_f h) (Post.brT rfl (Post.pure rfl))))
theorem l21_more {b : List Int} {n lo q k c : Int} (hi : idx b k = some c) (hk : k < b.length) (k0 : 0 ≤ k) (k4 : k < 4) (h : 128 ≤ c ∧ c < 192) (r0 : 0 ≤ lo) (r1 : lo ≤ 2097152) (q0 : 1 ≤ q) (q1 : q ≤ 4096) (m0 : 0 ≤ (c - 128) * q) (m1 : (c - 128) * q ≤ 262144) {R : Sum (Int × Int × Int) Bool}
    (hR : bLoop (b, n, lo + (c - 128) * q, q, k + 1) = some R) : bLoop (b, n, lo, q * 64, k) = some R := by
  refine loopW_next (Post.run ?_) hR
  dsimp only
  unfold ref01_begins_L21
  have e1 : (q * 64).tdiv 64 = q := by rw [Int.tdiv_eq_ediv_of_nonneg (by omega)]; omega
  have e2 : IntKind.i64.wrap q = q := wrap64 (by omega) (by omega)
  rw [e1, e2, wrap64 (n := k + 1) (by omega) (by omega)]
  refine Post.brT (decide_eq_true hk) (Post.bnd hi (Post.bnd (tail_t h) (Post.brF rfl (Post.bnd hi (Post.pure ?_)))))
  rw [wrapU8 (by omega) (by omega), wrap64 (n := c - 128) (by omega) (by omega), wrap64 (n := (c - 128) * q) (by omega) (by omega), wrap64 (by omega) (by omega)]
theorem l21_end {b : List Int} {n lo size k : Int} (hk : b.length ≤ k) : bLoop (b, n, lo, size, k) = some (.inl (n, lo, size)) := by
  refine loopW_done (Post.run ?_)
  dsimp only
  unfold ref01_begins_L21
  exact Post.brF (decide_eq_false (by omega)) (Post.pure rfl)

/-- no scalar begins so, or all of its bytes are there -/
theorem beg2_out {c0 c1 : Int} (h0 : 0 ≤ c0) (h1 : c0 ≤ 255) (h : c0 < 224 ∨ 245 ≤ c0) : ref01_begins_F [c0, c1] = some false := by
  unfold ref01_begins_F ref01_begins_T
  refine Post.run (Post.bnd (b := c0) rfl ?_)
  rw [wrap64 (n := c0) (by omega) (by omega)]
  rcases h with h | h
  · by_cases hc : 194 ≤ c0
    · repeat (first | refine Post.brT (decide_eq_true (by omega)) ?_ | refine Post.brF (decide_eq_false (by omega)) ?_ | refine Post.brT (beq_iff_eq.2 (by omega)) ?_ | refine Post.brF (beq_eq_false_iff_ne.2 (by omega)) ?_ | refine Post.brT (by rfl) ?_ | refine Post.brF (by rfl) ?_)
      exact Post.pure rfl
    · repeat (first | refine Post.brT (decide_eq_true (by omega)) ?_ | refine Post.brF (decide_eq_false (by omega)) ?_ | refine Post.brT (beq_iff_eq.2 (by omega)) ?_ | refine Post.brF (beq_eq_false_iff_ne.2 (by omega)) ?_ | refine Post.brT (by rfl) ?_ | refine Post.brF (by rfl) ?_)
      exact Post.pure rfl
  · repeat (first | refine Post.brT (decide_eq_true (by omega)) ?_ | refine Post.brF (decide_eq_false (by omega)) ?_ | refine Post.brT (beq_iff_eq.2 (by omega)) ?_ | refine Post.brF (beq_eq_false_iff_ne.2 (by omega)) ?_ | refine Post.brT (by rfl) ?_ | refine Post.brF (by rfl) ?_)
    exact Post.pure rfl
theorem beg3_out {c0 c1 c2 : Int} (h0 : 0 ≤ c0) (h1 : c0 ≤ 255) (h : c0 < 240 ∨ 245 ≤ c0) : ref01_begins_F [c0, c1, c2] = some false := by
  unfold ref01_begins_F ref01_begins_T
  refine Post.run (Post.bnd (b := c0) rfl ?_)
  rw [wrap64 (n := c0) (by omega) (by omega)]
  rcases h with h | h
  · by_cases hc : 194 ≤ c0
    · by_cases hd : 224 ≤ c0
      · repeat (first | refine Post.brT (decide_eq_true (by omega)) ?_ | refine Post.brF (decide_eq_false (by omega)) ?_ | refine Post.brT (beq_iff_eq.2 (by omega)) ?_ | refine Post.brF (beq_eq_false_iff_ne.2 (by omega)) ?_ | refine Post.brT (by rfl) ?_ | refine Post.brF (by rfl) ?_)
        exact Post.pure rfl
      · repeat (first | refine Post.brT (decide_eq_true (by omega)) ?_ | refine Post.brF (decide_eq_false (by omega)) ?_ | refine Post.brT (beq_iff_eq.2 (by omega)) ?_ | refine Post.brF (beq_eq_false_iff_ne.2 (by omega)) ?_ | refine Post.brT (by rfl) ?_ | refine Post.brF (by rfl) ?_)
        exact Post.pure rfl
    · repeat (first | refine Post.brT (decide_eq_true (by omega)) ?_ | refine Post.brF (decide_eq_false (by omega)) ?_ | refine Post.brT (beq_iff_eq.2 (by omega)) ?_ | refine Post.brF (beq_eq_false_iff_ne.2 (by omega)) ?_ | refine Post.brT (by rfl) ?_ | refine Post.brF (by rfl) ?_)
      exact Post.pure rfl
  · repeat (first | refine Post.brT (decide_eq_true (by omega)) ?_ | refine Post.brF (decide_eq_false (by omega)) ?_ | refine Post.brT (beq_iff_eq.2 (by omega)) ?_ | refine Post.brF (beq_eq_false_iff_ne.2 (by omega)) ?_ | refine Post.brT (by rfl) ?_ | refine Post.brF (by rfl) ?_)
    exact Post.pure rfl
theorem beg2_3 {c0 c1 : Int} (h : 224 ≤ c0 ∧ c0 < 240) : ref01_begins_F [c0, c1] = some (decide (128 ≤ c1 ∧ c1 < 192 ∧ (c0 = 224 → 160 ≤ c1) ∧ (c0 = 237 → c1 < 160))) := by
  unfold ref01_begins_F ref01_begins_T
  refine Post.run (Post.bnd (b := c0) rfl ?_)
  rw [wrap64 (n := c0) (by omega) (by omega), wrap64 (n := c0 - 224) (by omega) (by omega), wrap64 (n := (c0 - 224) * 4096) (by omega) (by omega)]
  repeat (first | refine Post.brT (decide_eq_true (by omega)) ?_ | refine Post.brF (decide_eq_false (by omega)) ?_ | refine Post.brT (beq_iff_eq.2 (by omega)) ?_ | refine Post.brF (beq_eq_false_iff_ne.2 (by omega)) ?_ | refine Post.brT (by rfl) ?_ | refine Post.brF (by rfl) ?_)
  refine Post.bnd (l17_3 _ _) ?_
  dsimp only
  by_cases t1 : c1 < 128 ∨ 192 ≤ c1
  · exact Post.altR (l21_bad (c := c1) rfl (by simp) t1) (Post.pure (decide_eq_false (by omega)).symm)
  refine Post.altL (l21_more (q := 64) (c := c1) rfl (by simp) (by omega) (by omega) (by omega) (by omega) (by omega) (by omega) (by omega) (by omega) (by omega) (l21_end (by simp))) ?_
  dsimp only
  rw [wrap64 (n := (c0 - 224) * 4096 + (c1 - 128) * 64 + 64) (by omega) (by omega), wrap64 (n := (c0 - 224) * 4096 + (c1 - 128) * 64 + 64 - 1) (by omega) (by omega)]
  repeat (first | refine Post.brT (decide_eq_true (by omega)) ?_ | refine Post.brF (decide_eq_false (by omega)) ?_ | refine Post.brT (beq_iff_eq.2 (by omega)) ?_ | refine Post.brF (beq_eq_false_iff_ne.2 (by omega)) ?_ | refine Post.brT (by rfl) ?_ | refine Post.brF (by rfl) ?_)
  refine Post.br (fun h1 => Post.pure ?_) (fun h1 => Post.brF (decide_eq_false (by omega)) (Post.br (fun h2 => Post.pure ?_) (fun h2 => Post.pure ?_)))
  · have h1 := of_decide_eq_true h1
    exact (decide_eq_false (by omega)).symm
  · have h1 := of_decide_eq_false h1
    have h2 := of_decide_eq_true h2
    rw [← decide_not]
    exact decide_eq_decide.2 (by omega)
  · have h1 := of_decide_eq_false h1
    have h2 := of_decide_eq_false h2
    exact (decide_eq_true (by omega)).symm
theorem beg2_4 {c0 c1 : Int} (h : 240 ≤ c0 ∧ c0 < 245) : ref01_begins_F [c0, c1] = some (decide (128 ≤ c1 ∧ c1 < 192 ∧ (c0 = 240 → 144 ≤ c1) ∧ (c0 = 244 → c1 < 144))) := by
  unfold ref01_begins_F ref01_begins_T
  refine Post.run (Post.bnd (b := c0) rfl ?_)
  rw [wrap64 (n := c0) (by omega) (by omega), wrap64 (n := c0 - 240) (by omega) (by omega), wrap64 (n := (c0 - 240) * 262144) (by omega) (by omega)]
  repeat (first | refine Post.brT (decide_eq_true (by omega)) ?_ | refine Post.brF (decide_eq_false (by omega)) ?_ | refine Post.brT (beq_iff_eq.2 (by omega)) ?_ | refine Post.brF (beq_eq_false_iff_ne.2 (by omega)) ?_ | refine Post.brT (by rfl) ?_ | refine Post.brF (by rfl) ?_)
  refine Post.bnd (l17_4 _ _) ?_
  dsimp only
  by_cases t1 : c1 < 128 ∨ 192 ≤ c1
  · exact Post.altR (l21_bad (c := c1) rfl (by simp) t1) (Post.pure (decide_eq_false (by omega)).symm)
  refine Post.altL (l21_more (q := 4096) (c := c1) rfl (by simp) (by omega) (by omega) (by omega) (by omega) (by omega) (by omega) (by omega) (by omega) (by omega) (l21_end (by simp))) ?_
  dsimp only
  rw [wrap64 (n := (c0 - 240) * 262144 + (c1 - 128) * 4096 + 4096) (by omega) (by omega), wrap64 (n := (c0 - 240) * 262144 + (c1 - 128) * 4096 + 4096 - 1) (by omega) (by omega)]
  repeat (first | refine Post.brT (decide_eq_true (by omega)) ?_ | refine Post.brF (decide_eq_false (by omega)) ?_ | refine Post.brT (beq_iff_eq.2 (by omega)) ?_ | refine Post.brF (beq_eq_false_iff_ne.2 (by omega)) ?_ | refine Post.brT (by rfl) ?_ | refine Post.brF (by rfl) ?_)
  refine Post.br (fun h1 => Post.pure ?_) (fun h1 => Post.br (fun h2 => Post.pure ?_) (fun h2 => Post.br (fun h3 => Post.pure ?_) (fun h3 => Post.pure ?_)))
  · have h1 := of_decide_eq_true h1
    exact (decide_eq_false (by omega)).symm
  · have h1 := of_decide_eq_false h1
    have h2 := of_decide_eq_true h2
    exact (decide_eq_false (by omega)).symm
  · have h1 := of_decide_eq_false h1
    have h2 := of_decide_eq_false h2
    rw [← decide_not]
    exact decide_eq_decide.2 (by omega)
  · have h1 := of_decide_eq_false h1
    have h2 := of_decide_eq_false h2
    exact (decide_eq_true (by omega)).symm
theorem beg3_4 {c0 c1 c2 : Int} (h : 240 ≤ c0 ∧ c0 < 245) : ref01_begins_F [c0, c1, c2] = some (decide (128 ≤ c1 ∧ c1 < 192 ∧ (c0 = 240 → 144 ≤ c1) ∧ (c0 = 244 → c1 < 144) ∧ 128 ≤ c2 ∧ c2 < 192)) := by
  unfold ref01_begins_F ref01_begins_T
  refine Post.run (Post.bnd (b := c0) rfl ?_)
  rw [wrap64 (n := c0) (by omega) (by omega), wrap64 (n := c0 - 240) (by omega) (by omega), wrap64 (n := (c0 - 240) * 262144) (by omega) (by omega)]
  repeat (first | refine Post.brT (decide_eq_true (by omega)) ?_ | refine Post.brF (decide_eq_false (by omega)) ?_ | refine Post.brT (beq_iff_eq.2 (by omega)) ?_ | refine Post.brF (beq_eq_false_iff_ne.2 (by omega)) ?_ | refine Post.brT (by rfl) ?_ | refine Post.brF (by rfl) ?_)
  refine Post.bnd (l17_4 _ _) ?_
  dsimp only
  by_cases t1 : c1 < 128 ∨ 192 ≤ c1
  · exact Post.altR (l21_bad (c := c1) rfl (by simp) t1) (Post.pure (decide_eq_false (by omega)).symm)
  by_cases t2 : c2 < 128 ∨ 192 ≤ c2
  · exact Post.altR (l21_more (q := 4096) (c := c1) rfl (by simp) (by omega) (by omega) (by omega) (by omega) (by omega) (by omega) (by omega) (by omega) (by omega) (l21_bad (c := c2) rfl (by simp) t2)) (Post.pure (decide_eq_false (by omega)).symm)
  refine Post.altL (l21_more (q := 4096) (c := c1) rfl (by simp) (by omega) (by omega) (by omega) (by omega) (by omega) (by omega) (by omega) (by omega) (by omega) (l21_more (q := 64) (c := c2) rfl (by simp) (by omega) (by omega) (by omega) (by omega) (by omega) (by omega) (by omega) (by omega) (by omega) (l21_end (by simp)))) ?_
  dsimp only
  rw [wrap64 (n := (c0 - 240) * 262144 + (c1 - 128) * 4096 + (c2 - 128) * 64 + 64) (by omega) (by omega), wrap64 (n := (c0 - 240) * 262144 + (c1 - 128) * 4096 + (c2 - 128) * 64 + 64 - 1) (by omega) (by omega)]
  repeat (first | refine Post.brT (decide_eq_true (by omega)) ?_ | refine Post.brF (decide_eq_false (by omega)) ?_ | refine Post.brT (beq_iff_eq.2 (by omega)) ?_ | refine Post.brF (beq_eq_false_iff_ne.2 (by omega)) ?_ | refine Post.brT (by rfl) ?_ | refine Post.brF (by rfl) ?_)
  refine Post.br (fun h1 => Post.pure ?_) (fun h1 => Post.br (fun h2 => Post.pure ?_) (fun h2 => Post.br (fun h3 => Post.pure ?_) (fun h3 => Post.pure ?_)))
  · have h1 := of_decide_eq_true h1
    exact (decide_eq_false (by omega)).symm
  · have h1 := of_decide_eq_false h1
    have h2 := of_decide_eq_true h2
    exact (decide_eq_false (by omega)).symm
  · have h1 := of_decide_eq_false h1
    have h2 := of_decide_eq_false h2
    rw [← decide_not]
    exact decide_eq_decide.2 (by omega)
  · have h1 := of_decide_eq_false h1
    have h2 := of_decide_eq_false h2
    exact (decide_eq_true (by omega)).symm

end Go.Proofs.Ytbldbneianlolaa
