/-
  The laws of utf return true: what the document's answer is made of.
-/
import Derived.Test.YtbldbneianlolaaLawUtfB
namespace Go.Proofs.Ytbldbneianlolaa
set_option linter.all false

/-! ### a scalar's bytes -/
theorem l13_2 (r : Int) : loopW (fun s : Int × Int × Int × Int => (ref01_Bytes_L13 s.1 s.2.1 s.2.2.1 s.2.2.2).run) (r, 2, 1, 1) = some (r, 2, 64) := by
  have a1 : IntKind.i64.wrap (1 * 64) = 64 := by decide
  have b1 : IntKind.i64.wrap (1 + 1) = 2 := by decide
  refine loopW_next (s' := (r, 2, 64, 2)) (Post.run (Post.brT rfl (Post.pure ?_))) (loopW_done (Post.run (Post.brF rfl (Post.pure rfl))))
  dsimp only; rw [a1, b1]
theorem l13_3 (r : Int) : loopW (fun s : Int × Int × Int × Int => (ref01_Bytes_L13 s.1 s.2.1 s.2.2.1 s.2.2.2).run) (r, 3, 1, 1) = some (r, 3, 4096) := by
  have a1 : IntKind.i64.wrap (1 * 64) = 64 := by decide
  have b1 : IntKind.i64.wrap (1 + 1) = 2 := by decide
  have a2 : IntKind.i64.wrap (64 * 64) = 4096 := by decide
  have b2 : IntKind.i64.wrap (2 + 1) = 3 := by decide
  refine loopW_next (s' := (r, 3, 64, 2)) (Post.run (Post.brT rfl (Post.pure ?_))) (loopW_next (s' := (r, 3, 4096, 3)) (Post.run (Post.brT rfl (Post.pure ?_))) (loopW_done (Post.run (Post.brF rfl (Post.pure rfl)))))
  · dsimp only; rw [a1, b1]
  · dsimp only; rw [a2, b2]
theorem l13_4 (r : Int) : loopW (fun s : Int × Int × Int × Int => (ref01_Bytes_L13 s.1 s.2.1 s.2.2.1 s.2.2.2).run) (r, 4, 1, 1) = some (r, 4, 262144) := by
  have a1 : IntKind.i64.wrap (1 * 64) = 64 := by decide
  have b1 : IntKind.i64.wrap (1 + 1) = 2 := by decide
  have a2 : IntKind.i64.wrap (64 * 64) = 4096 := by decide
  have b2 : IntKind.i64.wrap (2 + 1) = 3 := by decide
  have a3 : IntKind.i64.wrap (4096 * 64) = 262144 := by decide
  have b3 : IntKind.i64.wrap (3 + 1) = 4 := by decide
  refine loopW_next (s' := (r, 4, 64, 2)) (Post.run (Post.brT rfl (Post.pure ?_))) (loopW_next (s' := (r, 4, 4096, 3)) (Post.run (Post.brT rfl (Post.pure ?_))) (loopW_next (s' := (r, 4, 262144, 4)) (Post.run (Post.brT rfl (Post.pure ?_))) (loopW_done (Post.run (Post.brF rfl (Post.pure rfl))))))
  · dsimp only; rw [a1, b1]
  · dsimp only; rw [a2, b2]
  · dsimp only; rw [a3, b3]

theorem l22_more {r q : Int} {out : List Int} (h0 : 0 ≤ r) (h1 : r ≤ 2097152) (q0 : 1 ≤ q) (q1 : q ≤ 4096) (ho : out.length ≤ 10) {R : List Int}
    (hR : loopW (fun s : Int × List Int × Int => (ref01_Bytes_L22 s.1 s.2.1 s.2.2).run) (r, out ++ [128 + r / q % 64], q) = some R) :
    loopW (fun s : Int × List Int × Int => (ref01_Bytes_L22 s.1 s.2.1 s.2.2).run) (r, out, q * 64) = some R := by
  refine loopW_next (Post.run ?_) hR
  dsimp only
  unfold ref01_Bytes_L22
  have e1 : (q * 64).tdiv 64 = q := by rw [Int.tdiv_eq_ediv_of_nonneg (by omega)]; omega
  have e2 : IntKind.i64.wrap q = q := wrap64 (by omega) (by omega)
  have e3 : r.tdiv q = r / q := Int.tdiv_eq_ediv_of_nonneg h0
  have hd0 : 0 ≤ r / q := Int.ediv_nonneg h0 (by omega)
  have hd1 : r / q ≤ r := Int.ediv_le_self q h0
  rw [e1, e2, e3, wrap64 (n := r / q) (by omega) (by omega), Int.tmod_eq_emod_of_nonneg hd0, wrap64 (by omega) (by omega), wrapU8 (by omega) (by omega)]
  exact Post.brT (decide_eq_true (by omega)) (Post.brT (by simp; omega) (Post.bnd (app_eq (by simp only [List.length_singleton]; omega)) (Post.pure rfl)))
theorem l22_end {r : Int} {out : List Int} : loopW (fun s : Int × List Int × Int => (ref01_Bytes_L22 s.1 s.2.1 s.2.2).run) (r, out, 1) = some out :=
  loopW_done (Post.run (Post.brF rfl (Post.pure rfl)))
theorem l22_1 {r : Int} {a : Int} (h0 : 0 ≤ r) (h1 : r ≤ 2097152) : loopW (fun s : Int × List Int × Int => (ref01_Bytes_L22 s.1 s.2.1 s.2.2).run) (r, [a], 64) = some [a, 128 + r / 1 % 64] :=
  l22_more (q := 1) h0 h1 (by omega) (by omega) (by simp) l22_end
theorem l22_2 {r : Int} {a : Int} (h0 : 0 ≤ r) (h1 : r ≤ 2097152) : loopW (fun s : Int × List Int × Int => (ref01_Bytes_L22 s.1 s.2.1 s.2.2).run) (r, [a], 4096) = some [a, 128 + r / 64 % 64, 128 + r / 1 % 64] :=
  l22_more (q := 64) h0 h1 (by omega) (by omega) (by simp) (l22_more (q := 1) h0 h1 (by omega) (by omega) (by simp) l22_end)
theorem l22_3 {r : Int} {a : Int} (h0 : 0 ≤ r) (h1 : r ≤ 2097152) : loopW (fun s : Int × List Int × Int => (ref01_Bytes_L22 s.1 s.2.1 s.2.2).run) (r, [a], 262144) = some [a, 128 + r / 4096 % 64, 128 + r / 64 % 64, 128 + r / 1 % 64] :=
  l22_more (q := 4096) h0 h1 (by omega) (by omega) (by simp) (l22_more (q := 64) h0 h1 (by omega) (by omega) (by simp) (l22_more (q := 1) h0 h1 (by omega) (by omega) (by simp) l22_end))

theorem lead_byte {r d k : Int} (h0 : 0 ≤ r) (h1 : r ≤ 2097152) (hd : 1 ≤ d) (hq : 0 ≤ k + r / d) (hq2 : k + r / d ≤ 255) : IntKind.u8.wrap (IntKind.i64.wrap (k + IntKind.i64.wrap (r.tdiv d))) = k + r / d := by
  have hd0 : 0 ≤ r / d := Int.ediv_nonneg h0 (by omega)
  have hd1 : r / d ≤ r := Int.ediv_le_self d h0
  rw [Int.tdiv_eq_ediv_of_nonneg h0, wrap64 (n := r / d) (by omega) (by omega), wrap64 (by omega) (by omega), wrapU8 hq hq2]

theorem bytes1 {r : Int} (h0 : 0 ≤ r) (h1 : r < 128) : ref01_Bytes_F r = some [r] := by
  unfold ref01_Bytes_F ref01_Bytes_T
  refine Post.run ?_
  repeat (first | refine Post.brT (decide_eq_true (by omega)) ?_ | refine Post.brF (decide_eq_false (by omega)) ?_ | refine Post.brT (beq_iff_eq.2 (by omega)) ?_ | refine Post.brF (beq_eq_false_iff_ne.2 (by omega)) ?_ | refine Post.brT (by rfl) ?_ | refine Post.brF (by rfl) ?_)
  exact Post.pure (by rw [wrapU8 (by omega) (by omega)])
theorem bytes2 {r : Int} (h0 : 128 ≤ r) (h1 : r < 2048) : ref01_Bytes_F r = some [192 + r / 64, 128 + r % 64] := by
  unfold ref01_Bytes_F ref01_Bytes_T
  refine Post.run ?_
  repeat (first | refine Post.brT (decide_eq_true (by omega)) ?_ | refine Post.brF (decide_eq_false (by omega)) ?_ | refine Post.brT (beq_iff_eq.2 (by omega)) ?_ | refine Post.brF (beq_eq_false_iff_ne.2 (by omega)) ?_ | refine Post.brT (by rfl) ?_ | refine Post.brF (by rfl) ?_)
  refine Post.bnd (l13_2 _) ?_
  repeat (first | refine Post.brT (decide_eq_true (by omega)) ?_ | refine Post.brF (decide_eq_false (by omega)) ?_ | refine Post.brT (beq_iff_eq.2 (by omega)) ?_ | refine Post.brF (beq_eq_false_iff_ne.2 (by omega)) ?_ | refine Post.brT (by rfl) ?_ | refine Post.brF (by rfl) ?_)
  refine Post.bnd (app_eq (by simp)) (Post.bnd (l22_1 (by omega) (by omega)) (Post.pure ?_))
  rw [lead_byte (r := r) (k := 192) (d := 64) (by omega) (by omega) (by omega) (by omega) (by omega), Int.ediv_one]
theorem bytes3 {r : Int} (h0 : 2048 ≤ r) (h1 : r < 65536) (hs : r < 55296 ∨ 57343 < r) : ref01_Bytes_F r = some [224 + r / 4096, 128 + r / 64 % 64, 128 + r % 64] := by
  unfold ref01_Bytes_F ref01_Bytes_T
  refine Post.run ?_
  rcases hs with hs | hs
  all_goals
    repeat (first | refine Post.brT (decide_eq_true (by omega)) ?_ | refine Post.brF (decide_eq_false (by omega)) ?_ | refine Post.brT (beq_iff_eq.2 (by omega)) ?_ | refine Post.brF (beq_eq_false_iff_ne.2 (by omega)) ?_ | refine Post.brT (by rfl) ?_ | refine Post.brF (by rfl) ?_)
    refine Post.bnd (l13_3 _) ?_
    repeat (first | refine Post.brT (decide_eq_true (by omega)) ?_ | refine Post.brF (decide_eq_false (by omega)) ?_ | refine Post.brT (beq_iff_eq.2 (by omega)) ?_ | refine Post.brF (beq_eq_false_iff_ne.2 (by omega)) ?_ | refine Post.brT (by rfl) ?_ | refine Post.brF (by rfl) ?_)
    refine Post.bnd (app_eq (by simp)) (Post.bnd (l22_2 (by omega) (by omega)) (Post.pure ?_))
    rw [lead_byte (r := r) (k := 224) (d := 4096) (by omega) (by omega) (by omega) (by omega) (by omega), Int.ediv_one]
theorem bytes4 {r : Int} (h0 : 65536 ≤ r) (h1 : r ≤ 1114111) : ref01_Bytes_F r = some [240 + r / 262144, 128 + r / 4096 % 64, 128 + r / 64 % 64, 128 + r % 64] := by
  unfold ref01_Bytes_F ref01_Bytes_T
  refine Post.run ?_
  repeat (first | refine Post.brT (decide_eq_true (by omega)) ?_ | refine Post.brF (decide_eq_false (by omega)) ?_ | refine Post.brT (beq_iff_eq.2 (by omega)) ?_ | refine Post.brF (beq_eq_false_iff_ne.2 (by omega)) ?_ | refine Post.brT (by rfl) ?_ | refine Post.brF (by rfl) ?_)
  refine Post.bnd (l13_4 _) ?_
  repeat (first | refine Post.brT (decide_eq_true (by omega)) ?_ | refine Post.brF (decide_eq_false (by omega)) ?_ | refine Post.brT (beq_iff_eq.2 (by omega)) ?_ | refine Post.brF (beq_eq_false_iff_ne.2 (by omega)) ?_ | refine Post.brT (by rfl) ?_ | refine Post.brF (by rfl) ?_)
  refine Post.bnd (app_eq (by simp)) (Post.bnd (l22_3 (by omega) (by omega)) (Post.pure ?_))
  rw [lead_byte (r := r) (k := 240) (d := 262144) (by omega) (by omega) (by omega) (by omega) (by omega), Int.ediv_one]
theorem bytesBad {r : Int} (h : 1114111 < r ∨ 55296 ≤ r ∧ r ≤ 57343) : ref01_Bytes_F r = some [239, 191, 189] := by
  unfold ref01_Bytes_F ref01_Bytes_T
  refine Post.run ?_
  rcases h with hs | hs
  all_goals
    repeat (first | refine Post.brT (decide_eq_true (by omega)) ?_ | refine Post.brF (decide_eq_false (by omega)) ?_ | refine Post.brT (beq_iff_eq.2 (by omega)) ?_ | refine Post.brF (beq_eq_false_iff_ne.2 (by omega)) ?_ | refine Post.brT (by rfl) ?_ | refine Post.brF (by rfl) ?_)
    refine Post.bnd (l13_3 _) ?_
    repeat (first | refine Post.brT (decide_eq_true (by omega)) ?_ | refine Post.brF (decide_eq_false (by omega)) ?_ | refine Post.brT (beq_iff_eq.2 (by omega)) ?_ | refine Post.brF (beq_eq_false_iff_ne.2 (by omega)) ?_ | refine Post.brT (by rfl) ?_ | refine Post.brF (by rfl) ?_)
    refine Post.bnd (app_eq (by simp)) (Post.bnd (l22_2 (by omega) (by omega)) (Post.pure ?_))
    rw [lead_byte (r := 65533) (k := 224) (d := 4096) (by omega) (by omega) (by omega) (by omega) (by omega)]; rfl

end Go.Proofs.Ytbldbneianlolaa
