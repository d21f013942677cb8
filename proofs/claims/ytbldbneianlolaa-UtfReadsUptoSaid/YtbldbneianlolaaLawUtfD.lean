/-
  The laws of utf return true: which bytes are a scalar's, and which begin one's.
-/
import Derived.Test.YtbldbneianlolaaLawUtfC
namespace Go.Proofs.Ytbldbneianlolaa
set_option linter.all false

theorem tail_t {c : Int} (h : 128 ≤ c ∧ c < 192) : ref01_tail_F c = some true := by
  unfold ref01_tail_F ref01_tail_T
  refine Post.run ?_
  repeat (first | refine Post.brT (decide_eq_true (by omega)) ?_ | refine Post.brF (decide_eq_false (by omega)) ?_ | refine Post.brT (beq_iff_eq.2 (by omega)) ?_ | refine Post.brF (beq_eq_false_iff_ne.2 (by omega)) ?_ | refine Post.brT (by rfl) ?_ | refine Post.brF (by rfl) ?_)
  exact Post.pure (decide_eq_true (by omega))
theorem tail_f {c : Int} (h : c < 128 ∨ 192 ≤ c) : ref01_tail_F c = some false := by
  unfold ref01_tail_F ref01_tail_T
  refine Post.run (Post.br (fun h1 => Post.pure ?_) (fun _ => Post.pure rfl))
  have h1 := of_decide_eq_true h1
  exact decide_eq_false (by omega)

/-! ### values -/
noncomputable abbrev vLoop : List Int × Int × Int → Option (Sum (List Int × Int) Int) := loopW (fun s => (ref01_value_L14 s.1 s.2.1 s.2.2).run)
theorem l14_bad {b : List Int} {r k c : Int} (hi : idx b k = some c) (hk : k < b.length) (h : c < 128 ∨ 192 ≤ c) : vLoop (b, r, k) = some (.inr (-1)) := by
  refine loopW_done (Post.run ?_)
  dsimp only
  unfold ref01_value_L14
  exact Post.brT (decide_eq_true hk) (Post.bnd hi (Post.bnd (tail_f h) (Post.brT rfl (Post.pure rfl))))
theorem l14_more {b : List Int} {r k c : Int} (hi : idx b k = some c) (hk : k < b.length) (k0 : 0 ≤ k) (k4 : k < 4) (h : 128 ≤ c ∧ c < 192) (r0 : 0 ≤ r) (r1 : r ≤ 1048576) {R : Sum (List Int × Int) Int}
    (hR : vLoop (b, r * 64 + (c - 128), k + 1) = some R) : vLoop (b, r, k) = some R := by
  refine loopW_next (Post.run ?_) hR
  dsimp only
  unfold ref01_value_L14
  rw [wrap64 (n := r * 64) (by omega) (by omega), wrap64 (n := k + 1) (by omega) (by omega)]
  refine Post.brT (decide_eq_true hk) (Post.bnd hi (Post.bnd (tail_t h) (Post.brF rfl (Post.bnd hi (Post.pure ?_)))))
  rw [wrapU8 (by omega) (by omega), wrap64 (n := c - 128) (by omega) (by omega), wrap64 (by omega) (by omega)]
theorem l14_end {b : List Int} {r k : Int} (hk : b.length ≤ k) : vLoop (b, r, k) = some (.inl (b, r)) := by
  refine loopW_done (Post.run ?_)
  dsimp only
  unfold ref01_value_L14
  exact Post.brF (decide_eq_false (by omega)) (Post.pure rfl)

theorem list_ext_getD {a b : List Int} (hl : a.length = b.length) (h : ∀ k, k < b.length → a.getD k 0 = b.getD k 0) : a = b := by
  rw [tab_self 0 b]
  exact tab_ext 0 hl h
theorem l23_eq {b : List Int} {r : Int} (hb : b.length ≤ 4) : loopW (fun s : List Int × Int × List Int × Int => (ref01_value_L23 s.1 s.2.1 s.2.2.1 s.2.2.2).run) (b, r, b, 0) = some (.inl r) := by
  refine count (L := fun s : List Int × Int × List Int × Int => ref01_value_L23 s.1 s.2.1 s.2.2.1 s.2.2.2) b.length (fun k => (b, r, b, (k : Int))) rfl (fun k hk => ?_) ?_
  · dsimp only
    unfold ref01_value_L23
    have hk1 : IntKind.i64.wrap ((k : Int) + 1) = ((k + 1 : Nat) : Int) := by rw [wrap64 (by omega) (by omega)]; omega
    rw [hk1]
    exact Post.brT (by simpa using hk) (Post.idx 0 k rfl hk (Post.idx 0 k rfl hk (Post.brF (by simp) (Post.pure rfl))))
  · dsimp only
    unfold ref01_value_L23
    exact Post.brF (by simp) (Post.pure rfl)
theorem l23_ne {b w : List Int} {r : Int} (hb : b.length ≤ 4) (hl : w.length = b.length) (hne : w ≠ b) : loopW (fun s : List Int × Int × List Int × Int => (ref01_value_L23 s.1 s.2.1 s.2.2.1 s.2.2.2).run) (b, r, w, 0) = some (.inr (-1)) := by
  obtain ⟨R, h1, h2⟩ := loop_ex (L := fun s : List Int × Int × List Int × Int => ref01_value_L23 s.1 s.2.1 s.2.2.1 s.2.2.2) (fun s => ∃ k : Nat, s = (b, r, w, (k : Int)) ∧ k ≤ b.length ∧ ∀ i, i < k → w.getD i 0 = b.getD i 0)
    (fun s => b.length + 1 - s.2.2.2.toNat) (R := fun R => R = .inr (-1)) (s0 := (b, r, w, 0)) (by
      rintro s ⟨k, rfl, hk, hi⟩
      dsimp only
      unfold ref01_value_L23
      have hk1 : IntKind.i64.wrap ((k : Int) + 1) = ((k + 1 : Nat) : Int) := by rw [wrap64 (by omega) (by omega)]; omega
      rw [hk1]
      by_cases hlt : k < b.length
      · refine Post.brT (by simpa using hlt) (Post.idx 0 k rfl (by omega) (Post.idx 0 k rfl hlt (Post.br (fun _ => Post.pure rfl) (fun h => Post.pure ⟨⟨k + 1, rfl, by omega, fun i hi2 => ?_⟩, ?_⟩))))
        · by_cases e : i = k
          · rw [e]; simpa using h
          · exact hi i (by omega)
        · dsimp only; omega
      · exact absurd (list_ext_getD hl (fun i hi2 => hi i (by omega))) hne) ⟨0, rfl, by omega, fun i hi => by omega⟩
  rw [h1, h2]

theorem val1_yes {c0 : Int} (h0 : 0 ≤ c0) (h1 : c0 < 128) : ref01_value_F [c0] = some c0 := by
  unfold ref01_value_F ref01_value_T
  refine Post.run (Post.bnd (b := c0) rfl ?_)
  rw [wrap64 (n := c0) (by omega) (by omega)]
  repeat (first | refine Post.brT (decide_eq_true (by omega)) ?_ | refine Post.brF (decide_eq_false (by omega)) ?_ | refine Post.brT (beq_iff_eq.2 (by omega)) ?_ | refine Post.brF (beq_eq_false_iff_ne.2 (by omega)) ?_ | refine Post.brT (by rfl) ?_ | refine Post.brF (by rfl) ?_)
  refine Post.altL (l14_end (by simp)) ?_
  dsimp only
  refine Post.bnd (bytes1 h0 h1) ?_
  repeat (first | refine Post.brT (decide_eq_true (by omega)) ?_ | refine Post.brF (decide_eq_false (by omega)) ?_ | refine Post.brT (beq_iff_eq.2 (by omega)) ?_ | refine Post.brF (beq_eq_false_iff_ne.2 (by omega)) ?_ | refine Post.brT (by rfl) ?_ | refine Post.brF (by rfl) ?_)
  exact Post.altL (l23_eq (by simp)) (Post.pure rfl)
theorem val1_no {c0 : Int} (h0 : 128 ≤ c0) (h1 : c0 ≤ 255) : ref01_value_F [c0] = some (-1) := by
  unfold ref01_value_F ref01_value_T
  refine Post.run (Post.bnd (b := c0) rfl ?_)
  rw [wrap64 (n := c0) (by omega) (by omega)]
  repeat (first | refine Post.brT (decide_eq_true (by omega)) ?_ | refine Post.brF (decide_eq_false (by omega)) ?_ | refine Post.brT (beq_iff_eq.2 (by omega)) ?_ | refine Post.brF (beq_eq_false_iff_ne.2 (by omega)) ?_ | refine Post.brT (by rfl) ?_ | refine Post.brF (by rfl) ?_)
  exact Post.pure rfl

theorem val2_yes {c0 c1 : Int} (h : 194 ≤ c0 ∧ c0 < 224) (t1 : 128 ≤ c1 ∧ c1 < 192) : ref01_value_F [c0, c1] = some ((c0 - 192) * 64 + (c1 - 128)) := by
  unfold ref01_value_F ref01_value_T
  refine Post.run (Post.bnd (b := c0) rfl ?_)
  rw [wrap64 (n := c0) (by omega) (by omega), wrap64 (n := c0 - 192) (by omega) (by omega)]
  repeat (first | refine Post.brT (decide_eq_true (by omega)) ?_ | refine Post.brF (decide_eq_false (by omega)) ?_ | refine Post.brT (beq_iff_eq.2 (by omega)) ?_ | refine Post.brF (beq_eq_false_iff_ne.2 (by omega)) ?_ | refine Post.brT (by rfl) ?_ | refine Post.brF (by rfl) ?_)
  refine Post.altL (l14_more (c := c1) rfl (by simp) (by omega) (by omega) t1 (by omega) (by omega) (l14_end (by simp))) ?_
  dsimp only
  refine Post.bnd (bytes2 (by omega) (by omega)) ?_
  repeat (first | refine Post.brT (decide_eq_true (by omega)) ?_ | refine Post.brF (decide_eq_false (by omega)) ?_ | refine Post.brT (beq_iff_eq.2 (by omega)) ?_ | refine Post.brF (beq_eq_false_iff_ne.2 (by omega)) ?_ | refine Post.brT (by rfl) ?_ | refine Post.brF (by rfl) ?_)
  have e : [192 + ((c0 - 192) * 64 + (c1 - 128)) / 64, 128 + ((c0 - 192) * 64 + (c1 - 128)) % 64] = [c0, c1] := by
    rw [show 192 + ((c0 - 192) * 64 + (c1 - 128)) / 64 = c0 by omega, show 128 + ((c0 - 192) * 64 + (c1 - 128)) % 64 = c1 by omega]
  rw [e]
  exact Post.altL (l23_eq (by simp)) (Post.pure rfl)
theorem val2_no {c0 c1 : Int} (h0 : 0 ≤ c0) (h1 : c0 ≤ 255) (h : (c0 < 194 ∨ 224 ≤ c0) ∨ (c1 < 128 ∨ 192 ≤ c1)) : ref01_value_F [c0, c1] = some (-1) := by
  unfold ref01_value_F ref01_value_T
  refine Post.run (Post.bnd (b := c0) rfl ?_)
  rw [wrap64 (n := c0) (by omega) (by omega), wrap64 (n := c0 - 192) (by omega) (by omega)]
  by_cases hc : 192 ≤ c0 ∧ c0 < 224
  · repeat (first | refine Post.brT (decide_eq_true (by omega)) ?_ | refine Post.brF (decide_eq_false (by omega)) ?_ | refine Post.brT (beq_iff_eq.2 (by omega)) ?_ | refine Post.brF (beq_eq_false_iff_ne.2 (by omega)) ?_ | refine Post.brT (by rfl) ?_ | refine Post.brF (by rfl) ?_)
    by_cases t1 : c1 < 128 ∨ 192 ≤ c1
    · exact Post.altR (l14_bad (c := c1) rfl (by simp) t1) (Post.pure rfl)
    · refine Post.altL (l14_more (c := c1) rfl (by simp) (by omega) (by omega) (by omega) (by omega) (by omega) (l14_end (by simp))) ?_
      dsimp only
      refine Post.bnd (bytes1 (by omega) (by omega)) ?_
      repeat (first | refine Post.brT (decide_eq_true (by omega)) ?_ | refine Post.brF (decide_eq_false (by omega)) ?_ | refine Post.brT (beq_iff_eq.2 (by omega)) ?_ | refine Post.brF (beq_eq_false_iff_ne.2 (by omega)) ?_ | refine Post.brT (by rfl) ?_ | refine Post.brF (by rfl) ?_)
      exact Post.pure rfl
  · by_cases hl : c0 < 192
    · repeat (first | refine Post.brT (decide_eq_true (by omega)) ?_ | refine Post.brF (decide_eq_false (by omega)) ?_ | refine Post.brT (beq_iff_eq.2 (by omega)) ?_ | refine Post.brF (beq_eq_false_iff_ne.2 (by omega)) ?_ | refine Post.brT (by rfl) ?_ | refine Post.brF (by rfl) ?_)
      exact Post.pure rfl
    · have : 224 ≤ c0 := by omega
      repeat (first | refine Post.brT (decide_eq_true (by omega)) ?_ | refine Post.brF (decide_eq_false (by omega)) ?_ | refine Post.brT (beq_iff_eq.2 (by omega)) ?_ | refine Post.brF (beq_eq_false_iff_ne.2 (by omega)) ?_ | refine Post.brT (by rfl) ?_ | refine Post.brF (by rfl) ?_)
      exact Post.pure rfl

theorem val3_yes {c0 c1 c2 : Int} (h : 224 ≤ c0 ∧ c0 < 240) (t1 : 128 ≤ c1 ∧ c1 < 192) (t2 : 128 ≤ c2 ∧ c2 < 192) (h0 : 2048 ≤ ((c0 - 224) * 64 + (c1 - 128)) * 64 + (c2 - 128))
    (hs : ((c0 - 224) * 64 + (c1 - 128)) * 64 + (c2 - 128) < 55296 ∨ 57343 < ((c0 - 224) * 64 + (c1 - 128)) * 64 + (c2 - 128)) : ref01_value_F [c0, c1, c2] = some (((c0 - 224) * 64 + (c1 - 128)) * 64 + (c2 - 128)) := by
  unfold ref01_value_F ref01_value_T
  refine Post.run (Post.bnd (b := c0) rfl ?_)
  rw [wrap64 (n := c0) (by omega) (by omega), wrap64 (n := c0 - 224) (by omega) (by omega)]
  repeat (first | refine Post.brT (decide_eq_true (by omega)) ?_ | refine Post.brF (decide_eq_false (by omega)) ?_ | refine Post.brT (beq_iff_eq.2 (by omega)) ?_ | refine Post.brF (beq_eq_false_iff_ne.2 (by omega)) ?_ | refine Post.brT (by rfl) ?_ | refine Post.brF (by rfl) ?_)
  refine Post.altL (l14_more (c := c1) rfl (by simp) (by omega) (by omega) t1 (by omega) (by omega) (l14_more (c := c2) rfl (by simp) (by omega) (by omega) t2 (by omega) (by omega) (l14_end (by simp)))) ?_
  dsimp only
  refine Post.bnd (bytes3 (by omega) (by omega) hs) ?_
  repeat (first | refine Post.brT (decide_eq_true (by omega)) ?_ | refine Post.brF (decide_eq_false (by omega)) ?_ | refine Post.brT (beq_iff_eq.2 (by omega)) ?_ | refine Post.brF (beq_eq_false_iff_ne.2 (by omega)) ?_ | refine Post.brT (by rfl) ?_ | refine Post.brF (by rfl) ?_)
  generalize hr : ((c0 - 224) * 64 + (c1 - 128)) * 64 + (c2 - 128) = r
  have e : [224 + r / 4096, 128 + r / 64 % 64, 128 + r % 64] = [c0, c1, c2] := by
    rw [show 224 + r / 4096 = c0 by omega, show 128 + r / 64 % 64 = c1 by omega, show 128 + r % 64 = c2 by omega]
  rw [e]
  exact Post.altL (l23_eq (by simp)) (Post.pure rfl)
theorem val3_no {c0 c1 c2 : Int} (h0 : 0 ≤ c0) (h1 : c0 ≤ 255) (h : (c0 < 224 ∨ 240 ≤ c0) ∨ (c1 < 128 ∨ 192 ≤ c1) ∨ (c2 < 128 ∨ 192 ≤ c2) ∨ ((c0 - 224) * 64 + (c1 - 128)) * 64 + (c2 - 128) < 2048 ∨
    (55296 ≤ ((c0 - 224) * 64 + (c1 - 128)) * 64 + (c2 - 128) ∧ ((c0 - 224) * 64 + (c1 - 128)) * 64 + (c2 - 128) ≤ 57343)) : ref01_value_F [c0, c1, c2] = some (-1) := by
  unfold ref01_value_F ref01_value_T
  refine Post.run (Post.bnd (b := c0) rfl ?_)
  rw [wrap64 (n := c0) (by omega) (by omega), wrap64 (n := c0 - 224) (by omega) (by omega)]
  by_cases hc : 224 ≤ c0 ∧ c0 < 240
  · repeat (first | refine Post.brT (decide_eq_true (by omega)) ?_ | refine Post.brF (decide_eq_false (by omega)) ?_ | refine Post.brT (beq_iff_eq.2 (by omega)) ?_ | refine Post.brF (beq_eq_false_iff_ne.2 (by omega)) ?_ | refine Post.brT (by rfl) ?_ | refine Post.brF (by rfl) ?_)
    by_cases t1 : c1 < 128 ∨ 192 ≤ c1
    · exact Post.altR (l14_bad (c := c1) rfl (by simp) t1) (Post.pure rfl)
    by_cases t2 : c2 < 128 ∨ 192 ≤ c2
    · exact Post.altR (l14_more (c := c1) rfl (by simp) (by omega) (by omega) (by omega) (by omega) (by omega) (l14_bad (c := c2) rfl (by simp) t2)) (Post.pure rfl)
    refine Post.altL (l14_more (c := c1) rfl (by simp) (by omega) (by omega) (by omega) (by omega) (by omega) (l14_more (c := c2) rfl (by simp) (by omega) (by omega) (by omega) (by omega) (by omega) (l14_end (by simp)))) ?_
    dsimp only
    generalize hr : ((c0 - 224) * 64 + (c1 - 128)) * 64 + (c2 - 128) = r at *
    by_cases r1 : r < 128
    · refine Post.bnd (bytes1 (by omega) (by omega)) ?_
      repeat (first | refine Post.brT (decide_eq_true (by omega)) ?_ | refine Post.brF (decide_eq_false (by omega)) ?_ | refine Post.brT (beq_iff_eq.2 (by omega)) ?_ | refine Post.brF (beq_eq_false_iff_ne.2 (by omega)) ?_ | refine Post.brT (by rfl) ?_ | refine Post.brF (by rfl) ?_)
      exact Post.pure rfl
    by_cases r2 : r < 2048
    · refine Post.bnd (bytes2 (by omega) (by omega)) ?_
      repeat (first | refine Post.brT (decide_eq_true (by omega)) ?_ | refine Post.brF (decide_eq_false (by omega)) ?_ | refine Post.brT (beq_iff_eq.2 (by omega)) ?_ | refine Post.brF (beq_eq_false_iff_ne.2 (by omega)) ?_ | refine Post.brT (by rfl) ?_ | refine Post.brF (by rfl) ?_)
      exact Post.pure rfl
    refine Post.bnd (bytesBad (by omega)) ?_
    repeat (first | refine Post.brT (decide_eq_true (by omega)) ?_ | refine Post.brF (decide_eq_false (by omega)) ?_ | refine Post.brT (beq_iff_eq.2 (by omega)) ?_ | refine Post.brF (beq_eq_false_iff_ne.2 (by omega)) ?_ | refine Post.brT (by rfl) ?_ | refine Post.brF (by rfl) ?_)
    refine Post.altR (l23_ne (by simp) (by simp) (fun e => ?_)) (Post.pure rfl)
    simp only [List.cons.injEq] at e
    omega
  · by_cases hl : c0 < 224
    · repeat (first | refine Post.brT (decide_eq_true (by omega)) ?_ | refine Post.brF (decide_eq_false (by omega)) ?_ | refine Post.brT (beq_iff_eq.2 (by omega)) ?_ | refine Post.brF (beq_eq_false_iff_ne.2 (by omega)) ?_ | refine Post.brT (by rfl) ?_ | refine Post.brF (by rfl) ?_)
      exact Post.pure rfl
    · have : 240 ≤ c0 := by omega
      repeat (first | refine Post.brT (decide_eq_true (by omega)) ?_ | refine Post.brF (decide_eq_false (by omega)) ?_ | refine Post.brT (beq_iff_eq.2 (by omega)) ?_ | refine Post.brF (beq_eq_false_iff_ne.2 (by omega)) ?_ | refine Post.brT (by rfl) ?_ | refine Post.brF (by rfl) ?_)
      exact Post.pure rfl

theorem val4_yes {c0 c1 c2 c3 : Int} (h : 240 ≤ c0 ∧ c0 < 248) (t1 : 128 ≤ c1 ∧ c1 < 192) (t2 : 128 ≤ c2 ∧ c2 < 192) (t3 : 128 ≤ c3 ∧ c3 < 192) (h0 : 65536 ≤ (((c0 - 240) * 64 + (c1 - 128)) * 64 + (c2 - 128)) * 64 + (c3 - 128))
    (hs : (((c0 - 240) * 64 + (c1 - 128)) * 64 + (c2 - 128)) * 64 + (c3 - 128) ≤ 1114111) : ref01_value_F [c0, c1, c2, c3] = some ((((c0 - 240) * 64 + (c1 - 128)) * 64 + (c2 - 128)) * 64 + (c3 - 128)) := by
  unfold ref01_value_F ref01_value_T
  refine Post.run (Post.bnd (b := c0) rfl ?_)
  rw [wrap64 (n := c0) (by omega) (by omega), wrap64 (n := c0 - 240) (by omega) (by omega)]
  repeat (first | refine Post.brT (decide_eq_true (by omega)) ?_ | refine Post.brF (decide_eq_false (by omega)) ?_ | refine Post.brT (beq_iff_eq.2 (by omega)) ?_ | refine Post.brF (beq_eq_false_iff_ne.2 (by omega)) ?_ | refine Post.brT (by rfl) ?_ | refine Post.brF (by rfl) ?_)
  refine Post.altL (l14_more (c := c1) rfl (by simp) (by omega) (by omega) t1 (by omega) (by omega) (l14_more (c := c2) rfl (by simp) (by omega) (by omega) t2 (by omega) (by omega) (l14_more (c := c3) rfl (by simp) (by omega) (by omega) t3 (by omega) (by omega) (l14_end (by simp))))) ?_
  dsimp only
  refine Post.bnd (bytes4 h0 hs) ?_
  repeat (first | refine Post.brT (decide_eq_true (by omega)) ?_ | refine Post.brF (decide_eq_false (by omega)) ?_ | refine Post.brT (beq_iff_eq.2 (by omega)) ?_ | refine Post.brF (beq_eq_false_iff_ne.2 (by omega)) ?_ | refine Post.brT (by rfl) ?_ | refine Post.brF (by rfl) ?_)
  generalize hr : (((c0 - 240) * 64 + (c1 - 128)) * 64 + (c2 - 128)) * 64 + (c3 - 128) = r
  have e : [240 + r / 262144, 128 + r / 4096 % 64, 128 + r / 64 % 64, 128 + r % 64] = [c0, c1, c2, c3] := by
    rw [show 240 + r / 262144 = c0 by omega, show 128 + r / 4096 % 64 = c1 by omega, show 128 + r / 64 % 64 = c2 by omega, show 128 + r % 64 = c3 by omega]
  rw [e]
  exact Post.altL (l23_eq (by simp)) (Post.pure rfl)
theorem val4_no {c0 c1 c2 c3 : Int} (h0 : 0 ≤ c0) (h1 : c0 ≤ 255) (h : (c0 < 240 ∨ 248 ≤ c0) ∨ (c1 < 128 ∨ 192 ≤ c1) ∨ (c2 < 128 ∨ 192 ≤ c2) ∨ (c3 < 128 ∨ 192 ≤ c3) ∨ (((c0 - 240) * 64 + (c1 - 128)) * 64 + (c2 - 128)) * 64 + (c3 - 128) < 65536 ∨
    1114111 < (((c0 - 240) * 64 + (c1 - 128)) * 64 + (c2 - 128)) * 64 + (c3 - 128)) : ref01_value_F [c0, c1, c2, c3] = some (-1) := by
  unfold ref01_value_F ref01_value_T
  refine Post.run (Post.bnd (b := c0) rfl ?_)
  rw [wrap64 (n := c0) (by omega) (by omega), wrap64 (n := c0 - 240) (by omega) (by omega)]
  by_cases hc : 240 ≤ c0 ∧ c0 < 248
  · repeat (first | refine Post.brT (decide_eq_true (by omega)) ?_ | refine Post.brF (decide_eq_false (by omega)) ?_ | refine Post.brT (beq_iff_eq.2 (by omega)) ?_ | refine Post.brF (beq_eq_false_iff_ne.2 (by omega)) ?_ | refine Post.brT (by rfl) ?_ | refine Post.brF (by rfl) ?_)
    by_cases t1 : c1 < 128 ∨ 192 ≤ c1
    · exact Post.altR (l14_bad (c := c1) rfl (by simp) t1) (Post.pure rfl)
    by_cases t2 : c2 < 128 ∨ 192 ≤ c2
    · exact Post.altR (l14_more (c := c1) rfl (by simp) (by omega) (by omega) (by omega) (by omega) (by omega) (l14_bad (c := c2) rfl (by simp) t2)) (Post.pure rfl)
    by_cases t3 : c3 < 128 ∨ 192 ≤ c3
    · exact Post.altR (l14_more (c := c1) rfl (by simp) (by omega) (by omega) (by omega) (by omega) (by omega) (l14_more (c := c2) rfl (by simp) (by omega) (by omega) (by omega) (by omega) (by omega) (l14_bad (c := c3) rfl (by simp) t3))) (Post.pure rfl)
    refine Post.altL (l14_more (c := c1) rfl (by simp) (by omega) (by omega) (by omega) (by omega) (by omega) (l14_more (c := c2) rfl (by simp) (by omega) (by omega) (by omega) (by omega) (by omega) (l14_more (c := c3) rfl (by simp) (by omega) (by omega) (by omega) (by omega) (by omega) (l14_end (by simp))))) ?_
    dsimp only
    generalize hr : (((c0 - 240) * 64 + (c1 - 128)) * 64 + (c2 - 128)) * 64 + (c3 - 128) = r at *
    by_cases r1 : r < 128
    · refine Post.bnd (bytes1 (by omega) (by omega)) ?_
      repeat (first | refine Post.brT (decide_eq_true (by omega)) ?_ | refine Post.brF (decide_eq_false (by omega)) ?_ | refine Post.brT (beq_iff_eq.2 (by omega)) ?_ | refine Post.brF (beq_eq_false_iff_ne.2 (by omega)) ?_ | refine Post.brT (by rfl) ?_ | refine Post.brF (by rfl) ?_)
      exact Post.pure rfl
    by_cases r2 : r < 2048
    · refine Post.bnd (bytes2 (by omega) (by omega)) ?_
      repeat (first | refine Post.brT (decide_eq_true (by omega)) ?_ | refine Post.brF (decide_eq_false (by omega)) ?_ | refine Post.brT (beq_iff_eq.2 (by omega)) ?_ | refine Post.brF (beq_eq_false_iff_ne.2 (by omega)) ?_ | refine Post.brT (by rfl) ?_ | refine Post.brF (by rfl) ?_)
      exact Post.pure rfl
    by_cases r3 : (55296 ≤ r ∧ r ≤ 57343) ∨ 1114111 < r
    · refine Post.bnd (bytesBad (by omega)) ?_
      repeat (first | refine Post.brT (decide_eq_true (by omega)) ?_ | refine Post.brF (decide_eq_false (by omega)) ?_ | refine Post.brT (beq_iff_eq.2 (by omega)) ?_ | refine Post.brF (beq_eq_false_iff_ne.2 (by omega)) ?_ | refine Post.brT (by rfl) ?_ | refine Post.brF (by rfl) ?_)
      exact Post.pure rfl
    refine Post.bnd (bytes3 (by omega) (by omega) (by omega)) ?_
    repeat (first | refine Post.brT (decide_eq_true (by omega)) ?_ | refine Post.brF (decide_eq_false (by omega)) ?_ | refine Post.brT (beq_iff_eq.2 (by omega)) ?_ | refine Post.brF (beq_eq_false_iff_ne.2 (by omega)) ?_ | refine Post.brT (by rfl) ?_ | refine Post.brF (by rfl) ?_)
    exact Post.pure rfl
  · by_cases hl : c0 < 240
    · repeat (first | refine Post.brT (decide_eq_true (by omega)) ?_ | refine Post.brF (decide_eq_false (by omega)) ?_ | refine Post.brT (beq_iff_eq.2 (by omega)) ?_ | refine Post.brF (beq_eq_false_iff_ne.2 (by omega)) ?_ | refine Post.brT (by rfl) ?_ | refine Post.brF (by rfl) ?_)
      exact Post.pure rfl
    · have : 248 ≤ c0 := by omega
      repeat (first | refine Post.brT (decide_eq_true (by omega)) ?_ | refine Post.brF (decide_eq_false (by omega)) ?_ | refine Post.brT (beq_iff_eq.2 (by omega)) ?_ | refine Post.brF (beq_eq_false_iff_ne.2 (by omega)) ?_ | refine Post.brT (by rfl) ?_ | refine Post.brF (by rfl) ?_)
      exact Post.pure rfl

end Go.Proofs.Ytbldbneianlolaa
