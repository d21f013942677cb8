/-
  The laws of utf return true: what the document's answer is made of.
-/
import Derived.Test.YtecknolpakmlpaaLawUtfA
namespace Go.Proofs.Ytecknolpakmlpaa
set_option linter.all false

/-! ### a scalar's bytes -/
theorem l13_2 (r : Int) : loopW (fun s : Int × Int × Int × Int => (ref01_Bytes_L13 s.1 s.2.1 s.2.2.1 s.2.2.2).run) (r, 2, 1, 1) = some (r, 2, 64) := by
  have a1 : IntKind.i64.wrap (1 * 64) = 64 := by decide
  have b1 : IntKind.i64.wrap (1 + 1) = 2 := by decide
  refine loopW_next (s' := (r, 2, 64, 2)) (Post.run (Post.brT rfl (Post.pure ?_))) (loopW_done (Post.run (Post.brF rfl (Post.pure rfl))))
  dsimp only; rw [a1, b1]
theorem l13_3 (r : Int) : loopW (fun s : Int × Int × Int × Int => (ref01_Bytes_L13 s.1 s.2.1 s.2.2.1 s.2.2.2).run) (r, 3, 1, 1) = some (r, 3, 4096) := by
  have a1 : IntKind.i64.wrap (1 * 64) = 64 := by decide
  have b1 : IntKind.i64.wrap (1 + 1) = 2 := by decide
  have a2 : IntKind.i64.wrap (64 * 64) = 4096 := by decide
  have b2 : IntKind.i64.wrap (2 + 1) = 3 := by decide
  refine loopW_next (s' := (r, 3, 64, 2)) (Post.run (Post.brT rfl (Post.pure ?_))) (loopW_next (s' := (r, 3, 4096, 3)) (Post.run (Post.brT rfl (Post.pure ?_))) (loopW_done (Post.run (Post.brF rfl (Post.pure rfl)))))
  · dsimp only; rw [a1, b1]
  · dsimp only; rw [a2, b2]
theorem l13_4 (r : Int) : loopW (fun s : Int × Int × Int × Int => (ref01_Bytes_L13 s.1 s.2.1 s.2.2.1 s.2.2.2).run) (r, 4, 1, 1) = some (r, 4, 262144) := by
  have a1 : IntKind.i64.wrap (1 * 64) = 64 := by decide
  have b1 : IntKind.i64.wrap (1 + 1) = 2 := by decide
  have a2 : IntKind.i64.wrap (64 * 64) = 4096 := by decide
  have b2 : IntKind.i64.wrap (2 + 1) = 3 := by decide
  have a3 : IntKind.i64.wrap (4096 * 64) = 262144 := by decide
  have b3 : IntKind.i64.wrap (3 + 1) = 4 := by decide
  refine loopW_next (s' := (r, 4, 64, 2)) (Post.run (Post.brT rfl (Post.pure ?_))) (loopW_next (s' := (r, 4, 4096, 3)) (Post.run (Post.brT rfl (Post.pure ?_))) (loopW_next (s' := (r, 4, 262144, 4)) (Post.run (Post.brT rfl (Post.pure ?_))) (loopW_done (Post.run (Post.brF rfl (Post.pure rfl))))))
  · dsimp only; rw [a1, b1]
  · dsimp only; rw [a2, b2]
  · dsimp only; rw [a3, b3]

theorem l22_more {r q : Int} {out : List Int} (h0 : 0 ≤ r) (h1 : r ≤ 2097152) (q0 : 1 ≤ q) (q1 : q ≤ 4096) (ho : out.length ≤ 10) {R : List Int}
    (hR : loopW (fun s : Int × List Int × Int => (ref01_Bytes_L22 s.1 s.2.1 s.2.2).run) (r, out ++ [128 + r / q % 64], q) = some R) :
    loopW (fun s : Int × List Int × Int => (ref01_Bytes_L22 s.1 s.2.1 s.2.2).run) (r, out, q * 64) = some R := by
  refine loopW_next (Post.run ?_) hR
  dsimp only
  unfold ref01_Bytes_L22
  have e1 : (q * 64).tdiv 64 = q := by rw [Int.tdiv_eq_ediv_of_nonneg (by omega)]; omega
  have e2 : IntKind.i64.wrap q = q := wrap64 (by omega) (by omega)
  have e3 : r.tdiv q = r / q := Int.tdiv_eq_ediv_of_nonneg h0
  have hd0 : 0 ≤ r / q := Int.ediv_nonneg h0 (by omega)
  have hd1 : r / q ≤ r := Int.ediv_le_self q h0
  rw [e1, e2, e3, wrap64 (n := r / q) (by omega) (by omega), Int.tmod_eq_emod_of_nonneg hd0, wrap64 (by omega) (by omega), wrapU8 (by omega) (by omega)]
  exact Post.brT (decide_eq_true (by omega)) (Post.brT (by simp; omega) (Post.bnd (app_eq (by simp only [List.length_singleton]; omega)) (Post.pure rfl)))
theorem l22_end {r : Int} {out : List Int} : loopW (fun s : Int × List Int × Int => (ref01_Bytes_L22 s.1 s.2.1 s.2.2).run) (r, out, 1) = some out :=
  loopW_done (Post.run (Post.brF rfl (Post.pure rfl)))
theorem l22_1 {r : Int} {a : Int} (h0 : 0 ≤ r) (h1 : r ≤ 2097152) : loopW (fun s : Int × List Int × Int => (ref01_Bytes_L22 s.1 s.2.1 s.2.2).run) (r, [a], 64) = some [a, 128 + r / 1 % 64] :=
  l22_more (q := 1) h0 h1 (by omega) (by omega) (by simp) l22_end
theorem l22_2 {r : Int} {a : Int} (h0 : 0 ≤ r) (h1 : r ≤ 2097152) : loopW (fun s : Int × List Int × Int => (ref01_Bytes_L22 s.1 s.2.1 s.2.2).run) (r, [a], 4096) = some [a, 128 + r / 64 % 64, 128 + r / 1 % 64] :=
  l22_more (q := 64) h0 h1 (by omega) (by omega) (by simp) (l22_more (q := 1) h0 h1 (by omega) (by omega) (by simp) l22_end)
theorem l22_3 {r : Int} {a : Int} (h0 : 0 ≤ r) (h1 : r ≤ 2097152) : loopW (fun s : Int × List Int × Int => (ref01_Bytes_L22 s.1 s.2.1 s.2.2).run) (r, [a], 262144) = some [a, 128 + r / 4096 % 64, 128 + r / 64 % 64, 128 + r / 1 % 64] :=
  l22_more (q := 4096) h0 h1 (by omega) (by omega) (by simp) (l22_more (q := 64) h0 h1 (by omega) (by omega) (by simp) (l22_more (q := 1) h0 h1 (by omega) (by omega) (by simp) l22_end))

theorem lead_byte {r d k : Int} (h0 : 0 ≤ r) (h1 : r ≤ 2097152) (hd : 1 ≤ d) (hq : 0 ≤ k + r / d) (hq2 : k + r / d ≤ 255) : IntKind.u8.wrap (IntKind.i64.wrap (k + IntKind.i64.wrap (r.tdiv d))) = k + r / d := by
  have hd0 : 0 ≤ r / d := Int.ediv_nonneg h0 (by omega)
  have hd1 : r / d ≤ r := Int.ediv_le_self d h0
  rw [Int.tdiv_eq_ediv_of_nonneg h0, wrap64 (n := r / d) (by omega) (by omega), wrap64 (by omega) (by omega), wrapU8 hq hq2]

theorem sur {r : Int} (h : 0 ≤ r ∧ r < 55296 ∨ 57343 < r ∧ r ≤ 1114111) : (Tr.br (decide (r < 0)) (Tr.pure (r, true)) (Tr.br (decide (r > 1114111)) (Tr.pure (r, true)) (Tr.br (decide (r ≥ 55296)) (Tr.pure (r, decide (r ≤ 57343))) (Tr.pure (r, false)))) : Tr (Int × Bool)).run = some (r, false) := by
  refine Post.run (Post.brF (decide_eq_false (by omega)) (Post.brF (decide_eq_false (by omega)) (Post.br (fun c => Post.pure ?_) (fun _ => Post.pure rfl))))
  have c := of_decide_eq_true c
  rw [decide_eq_false (by omega)]
theorem surBad {r : Int} (h : r < 0 ∨ 1114111 < r ∨ 55296 ≤ r ∧ r ≤ 57343) : (Tr.br (decide (r < 0)) (Tr.pure (r, true)) (Tr.br (decide (r > 1114111)) (Tr.pure (r, true)) (Tr.br (decide (r ≥ 55296)) (Tr.pure (r, decide (r ≤ 57343))) (Tr.pure (r, false)))) : Tr (Int × Bool)).run = some (r, true) := by
  refine Post.run (Post.br (fun _ => Post.pure rfl) (fun c1 => Post.br (fun _ => Post.pure rfl) (fun c2 => ?_)))
  have c1 := of_decide_eq_false c1
  have c2 := of_decide_eq_false c2
  refine Post.brT (decide_eq_true (by omega)) (Post.pure ?_)
  rw [decide_eq_true (by omega)]

theorem bytes1 {r : Int} (h0 : 0 ≤ r) (h1 : r < 128) : ref01_Bytes_F r = some [r] := by
  unfold ref01_Bytes_F ref01_Bytes_T
  refine Post.run (Post.bnd (sur (by omega)) (Post.brF rfl ?_))
  dsimp only
  repeat (first | refine Post.brT (decide_eq_true (by omega)) ?_ | refine Post.brF (decide_eq_false (by omega)) ?_ | refine Post.brT (beq_iff_eq.2 (by omega)) ?_ | refine Post.brF (beq_eq_false_iff_ne.2 (by omega)) ?_ | refine Post.brT (by rfl) ?_ | refine Post.brF (by rfl) ?_)
  exact Post.pure (by rw [wrapU8 (by omega) (by omega)])
theorem bytes2 {r : Int} (h0 : 128 ≤ r) (h1 : r < 2048) : ref01_Bytes_F r = some [192 + r / 64, 128 + r % 64] := by
  unfold ref01_Bytes_F ref01_Bytes_T
  refine Post.run (Post.bnd (sur (by omega)) (Post.brF rfl ?_))
  dsimp only
  repeat (first | refine Post.brT (decide_eq_true (by omega)) ?_ | refine Post.brF (decide_eq_false (by omega)) ?_ | refine Post.brT (beq_iff_eq.2 (by omega)) ?_ | refine Post.brF (beq_eq_false_iff_ne.2 (by omega)) ?_ | refine Post.brT (by rfl) ?_ | refine Post.brF (by rfl) ?_)
  refine Post.bnd (l13_2 _) ?_
  repeat (first | refine Post.brT (decide_eq_true (by omega)) ?_ | refine Post.brF (decide_eq_false (by omega)) ?_ | refine Post.brT (beq_iff_eq.2 (by omega)) ?_ | refine Post.brF (beq_eq_false_iff_ne.2 (by omega)) ?_ | refine Post.brT (by rfl) ?_ | refine Post.brF (by rfl) ?_)
  refine Post.bnd (app_eq (by simp)) (Post.bnd (l22_1 (by omega) (by omega)) (Post.pure ?_))
  rw [lead_byte (r := r) (k := 192) (d := 64) (by omega) (by omega) (by omega) (by omega) (by omega), Int.ediv_one]
theorem bytes3 {r : Int} (h0 : 2048 ≤ r) (h1 : r < 65536) (hs : r < 55296 ∨ 57343 < r) : ref01_Bytes_F r = some [224 + r / 4096, 128 + r / 64 % 64, 128 + r % 64] := by
  unfold ref01_Bytes_F ref01_Bytes_T
  refine Post.run (Post.bnd (sur (by omega)) (Post.brF rfl ?_))
  dsimp only
  rcases hs with hs | hs
  all_goals
    repeat (first | refine Post.brT (decide_eq_true (by omega)) ?_ | refine Post.brF (decide_eq_false (by omega)) ?_ | refine Post.brT (beq_iff_eq.2 (by omega)) ?_ | refine Post.brF (beq_eq_false_iff_ne.2 (by omega)) ?_ | refine Post.brT (by rfl) ?_ | refine Post.brF (by rfl) ?_)
    refine Post.bnd (l13_3 _) ?_
    repeat (first | refine Post.brT (decide_eq_true (by omega)) ?_ | refine Post.brF (decide_eq_false (by omega)) ?_ | refine Post.brT (beq_iff_eq.2 (by omega)) ?_ | refine Post.brF (beq_eq_false_iff_ne.2 (by omega)) ?_ | refine Post.brT (by rfl) ?_ | refine Post.brF (by rfl) ?_)
    refine Post.bnd (app_eq (by simp)) (Post.bnd (l22_2 (by omega) (by omega)) (Post.pure ?_))
    rw [lead_byte (r := r) (k := 224) (d := 4096) (by omega) (by omega) (by omega) (by omega) (by omega), Int.ediv_one]
theorem bytes4 {r : Int} (h0 : 65536 ≤ r) (h1 : r ≤ 1114111) : ref01_Bytes_F r = some [240 + r / 262144, 128 + r / 4096 % 64, 128 + r / 64 % 64, 128 + r % 64] := by
  unfold ref01_Bytes_F ref01_Bytes_T
  refine Post.run (Post.bnd (sur (by omega)) (Post.brF rfl ?_))
  dsimp only
  repeat (first | refine Post.brT (decide_eq_true (by omega)) ?_ | refine Post.brF (decide_eq_false (by omega)) ?_ | refine Post.brT (beq_iff_eq.2 (by omega)) ?_ | refine Post.brF (beq_eq_false_iff_ne.2 (by omega)) ?_ | refine Post.brT (by rfl) ?_ | refine Post.brF (by rfl) ?_)
  refine Post.bnd (l13_4 _) ?_
  repeat (first | refine Post.brT (decide_eq_true (by omega)) ?_ | refine Post.brF (decide_eq_false (by omega)) ?_ | refine Post.brT (beq_iff_eq.2 (by omega)) ?_ | refine Post.brF (beq_eq_false_iff_ne.2 (by omega)) ?_ | refine Post.brT (by rfl) ?_ | refine Post.brF (by rfl) ?_)
  refine Post.bnd (app_eq (by simp)) (Post.bnd (l22_3 (by omega) (by omega)) (Post.pure ?_))
  rw [lead_byte (r := r) (k := 240) (d := 262144) (by omega) (by omega) (by omega) (by omega) (by omega), Int.ediv_one]
theorem bytesBad {r : Int} (h : r < 0 ∨ 1114111 < r ∨ 55296 ≤ r ∧ r ≤ 57343) : ref01_Bytes_F r = some [239, 191, 189] := by
  unfold ref01_Bytes_F ref01_Bytes_T
  refine Post.run (Post.bnd (surBad h) (Post.brT rfl ?_))
  repeat (first | refine Post.brT (decide_eq_true (by omega)) ?_ | refine Post.brF (decide_eq_false (by omega)) ?_ | refine Post.brT (beq_iff_eq.2 (by omega)) ?_ | refine Post.brF (beq_eq_false_iff_ne.2 (by omega)) ?_ | refine Post.brT (by rfl) ?_ | refine Post.brF (by rfl) ?_)
  refine Post.bnd (l13_3 _) ?_
  repeat (first | refine Post.brT (decide_eq_true (by omega)) ?_ | refine Post.brF (decide_eq_false (by omega)) ?_ | refine Post.brT (beq_iff_eq.2 (by omega)) ?_ | refine Post.brF (beq_eq_false_iff_ne.2 (by omega)) ?_ | refine Post.brT (by rfl) ?_ | refine Post.brF (by rfl) ?_)
  refine Post.bnd (app_eq (by simp)) (Post.bnd (l22_2 (by omega) (by omega)) (Post.pure ?_))
  rw [lead_byte (r := 65533) (k := 224) (d := 4096) (by omega) (by omega) (by omega) (by omega) (by omega)]; rfl

/-! ### all of them -/
def scl (r : Int) : Bool := decide (0 ≤ r ∧ r < 55296 ∨ 57343 < r ∧ r ≤ 1114111)
def enc0 (r : Int) : List Int := if r < 128 then [r] else if r < 2048 then [192 + r / 64, 128 + r % 64] else if r < 65536 then [224 + r / 4096, 128 + r / 64 % 64, 128 + r % 64] else [240 + r / 262144, 128 + r / 4096 % 64, 128 + r / 64 % 64, 128 + r % 64]
/-- what stands for a rune -/
def fixr (r : Int) : Int := if scl r = true then r else 65533
def enc (r : Int) : List Int := enc0 (fixr r)
theorem fixr_ok (r : Int) : 0 ≤ fixr r ∧ fixr r < 55296 ∨ 57343 < fixr r ∧ fixr r ≤ 1114111 := by
  unfold fixr
  split
  · rename_i h; exact of_decide_eq_true h
  · omega
theorem refBytes_F (r : Int) : ref01_Bytes_F r = some (enc r) := by
  unfold enc fixr
  by_cases h : scl r = true
  · rw [if_pos h]
    have h := of_decide_eq_true h
    unfold enc0
    by_cases h1 : r < 128
    · rw [if_pos h1]; exact bytes1 (by omega) h1
    · rw [if_neg h1]
      by_cases h2 : r < 2048
      · rw [if_pos h2]; exact bytes2 (by omega) h2
      · rw [if_neg h2]
        by_cases h3 : r < 65536
        · rw [if_pos h3]; exact bytes3 (by omega) h3 (by omega)
        · rw [if_neg h3]; exact bytes4 (by omega) (by omega)
  · rw [if_neg h]
    have h : ¬ (0 ≤ r ∧ r < 55296 ∨ 57343 < r ∧ r ≤ 1114111) := fun hh => h (decide_eq_true hh)
    exact bytesBad (by omega)
theorem scl_F (r : Int) : utf_Scalar_F r = some (scl r) := by
  by_cases h : 0 ≤ r ∧ r < 55296 ∨ 57343 < r ∧ r ≤ 1114111
  · rw [scalar_F h]; unfold scl; rw [decide_eq_true h]
  · unfold scl utf_Scalar_F utf_Scalar_T
    rw [decide_eq_false h]
    refine Post.run (Post.br (fun h1 => Post.br (fun h2 => ?_) (fun h2 => Post.br (fun h3 => Post.pure ?_) (fun h3 => Post.pure rfl))) (fun h1 => Post.br (fun h3 => Post.pure ?_) (fun h3 => Post.pure rfl)))
    · have h1 := of_decide_eq_true h1
      have h2 := of_decide_eq_true h2
      omega
    · have h1 := of_decide_eq_true h1
      have h3 := of_decide_eq_true h3
      exact decide_eq_false (by omega)
    · have h1 := of_decide_eq_false h1
      have h3 := of_decide_eq_true h3
      exact decide_eq_false (by omega)

/-! ### what the program writes -/
theorem shr_i32 {r : Int} (h : 0 ≤ r) (k : Nat) (hk : k ≤ 31) : shiftBy .shr .i32 r (k : Int) = r / 2 ^ k := by
  have e : shiftBy .shr .i32 r (k : Int) = r.fdiv (2 ^ (min k 32)) := rfl
  rw [e, Nat.min_eq_left (by omega), Int.fdiv_eq_ediv_of_nonneg _ (Int.le_of_lt (Int.pow_pos (by omega)))]
theorem shr6 {r : Int} (h : 0 ≤ r) : shiftBy .shr .i32 r 6 = r / 64 := shr_i32 h 6 (by omega)
theorem shr12 {r : Int} (h : 0 ≤ r) : shiftBy .shr .i32 r 12 = r / 4096 := shr_i32 h 12 (by omega)
theorem shr18 {r : Int} (h : 0 ≤ r) : shiftBy .shr .i32 r 18 = r / 262144 := shr_i32 h 18 (by omega)
theorem or_all : ((List.range 64).all fun n => ibits .or .u8 128 (n : Int) == ((128 + n : Nat) : Int)) = true ∧ ((List.range 32).all fun n => ibits .or .u8 192 (n : Int) == ((192 + n : Nat) : Int)) = true ∧ ((List.range 16).all fun n => ibits .or .u8 224 (n : Int) == ((224 + n : Nat) : Int)) = true ∧ ((List.range 8).all fun n => ibits .or .u8 240 (n : Int) == ((240 + n : Nat) : Int)) = true := by decide +kernel
theorem or_at {k m : Nat} (h : ((List.range m).all fun n => ibits .or .u8 (k : Int) (n : Int) == ((k + n : Nat) : Int)) = true) {x : Int} (h0 : 0 ≤ x) (h1 : x < m) : ibits .or .u8 (k : Int) x = (k : Int) + x := by
  obtain ⟨n, rfl⟩ := Int.eq_ofNat_of_zero_le h0
  have := List.all_eq_true.1 h n (List.mem_range.2 (by omega))
  have := eq_of_beq this
  rw [this]; omega
theorem or192 {x : Int} (h0 : 0 ≤ x) (h1 : x < 32) : ibits .or .u8 192 x = 192 + x := or_at (k := 192) or_all.2.1 h0 h1
theorem or224 {x : Int} (h0 : 0 ≤ x) (h1 : x < 16) : ibits .or .u8 224 x = 224 + x := or_at (k := 224) or_all.2.2.1 h0 h1
theorem or240 {x : Int} (h0 : 0 ≤ x) (h1 : x < 8) : ibits .or .u8 240 x = 240 + x := or_at (k := 240) or_all.2.2.2 h0 h1
theorem and63_i32 {x : Int} (h0 : 0 ≤ x) (h1 : x ≤ 2147483647) : ibits .and .i32 x 63 = x % 64 := by
  obtain ⟨n, rfl⟩ := Int.eq_ofNat_of_zero_le h0
  have e : ibits .and .i32 (n : Int) 63 = IntKind.i32.wrap ((BitVec.ofInt 32 (n : Int) &&& BitVec.ofInt 32 ((63 : Nat) : Int)).toNat : Int) := rfl
  rw [e, BitVec.ofInt_natCast, BitVec.ofInt_natCast, BitVec.toNat_and, BitVec.toNat_ofNat, BitVec.toNat_ofNat, Nat.mod_eq_of_lt (by omega), Nat.mod_eq_of_lt (by omega), show (63 : Nat) = 2 ^ 6 - 1 from rfl, Nat.and_two_pow_sub_one_eq_mod, wrap32 (by omega) (by omega)]
  omega
theorem tail_F {x : Int} (h0 : 0 ≤ x) (h1 : x ≤ 2147483647) : utf_tail_F x = some (128 + x % 64) := by
  unfold utf_tail_F utf_tail_T
  rw [and63_i32 h0 h1, wrapU8 (by omega) (by omega)]
  exact Post.run (Post.pure (or_at (k := 128) or_all.1 (by omega) (by omega)))
theorem wr1 {b : List Int} {x : Int} (hl : b.length ≤ 70368744177664) (h : 0 ≤ x ∧ x < 128) : (Tr.bnd (app 140737488355328 b ([IntKind.u8.wrap x])) fun r => Tr.pure r).run = some (b ++ enc0 x) := by
  rw [wrapU8 (by omega) (by omega)]
  refine Post.run (Post.bnd (app_eq (by simp only [List.length_singleton]; omega)) (Post.pure ?_))
  unfold enc0; rw [if_pos h.2]
theorem write_F {b : List Int} (hl : b.length ≤ 70368744177664) (r : Int) : utf_write_F b r = some (b ++ enc r) := by
  unfold utf_write_F utf_write_T enc
  refine Post.run (Post.bnd (scl_F r) (Post.br (fun c => ?_) (fun c => ?_)))
  · have : fixr r = 65533 := by unfold fixr; rw [if_neg (by simpa using c)]
    rw [this]
    have e6 : shiftBy .shr .i32 65533 6 = 1023 := rfl
    have e12 : shiftBy .shr .i32 65533 12 = 15 := rfl
    refine Post.brF (by decide) (Post.brF (by decide) (Post.brT (by decide) ?_))
    rw [e6, e12]
    refine Post.bnd (tail_F (by omega) (by omega)) (Post.bnd (tail_F (by omega) (by omega)) (Post.bnd (app_eq (by simp only [List.length_cons, List.length_nil]; omega)) (Post.pure ?_)))
    rw [wrapU8 (n := 15) (by omega) (by omega), or224 (x := 15) (by omega) (by omega)]
    rfl
  · have hs : scl r = true := by simpa using c
    have e : fixr r = r := by unfold fixr; rw [if_pos hs]
    have h : 0 ≤ r ∧ r < 55296 ∨ 57343 < r ∧ r ≤ 1114111 := of_decide_eq_true hs
    rw [e]
    unfold enc0
    rw [shr6 (by omega), shr12 (by omega), shr18 (by omega)]
    by_cases h1 : r < 128
    · rw [if_pos h1]
      refine Post.brT (decide_eq_true h1) ?_
      rw [wrapU8 (by omega) (by omega)]
      exact Post.bnd (app_eq (by simp only [List.length_singleton]; omega)) (Post.pure rfl)
    · rw [if_neg h1]
      refine Post.brF (decide_eq_false h1) ?_
      by_cases h2 : r < 2048
      · rw [if_pos h2]
        refine Post.brT (decide_eq_true h2) (Post.bnd (tail_F (by omega) (by omega)) ?_)
        rw [wrapU8 (n := r / 64) (by omega) (by omega), or192 (x := r / 64) (by omega) (by omega)]
        exact Post.bnd (app_eq (by simp only [List.length_cons, List.length_nil]; omega)) (Post.pure rfl)
      · rw [if_neg h2]
        refine Post.brF (decide_eq_false h2) ?_
        by_cases h3 : r < 65536
        · rw [if_pos h3]
          refine Post.brT (decide_eq_true h3) (Post.bnd (tail_F (by omega) (by omega)) (Post.bnd (tail_F (by omega) (by omega)) ?_))
          rw [wrapU8 (n := r / 4096) (by omega) (by omega), or224 (x := r / 4096) (by omega) (by omega)]
          exact Post.bnd (app_eq (by simp only [List.length_cons, List.length_nil]; omega)) (Post.pure rfl)
        · rw [if_neg h3]
          refine Post.brF (decide_eq_false h3) (Post.bnd (tail_F (by omega) (by omega)) (Post.bnd (tail_F (by omega) (by omega)) (Post.bnd (tail_F (by omega) (by omega)) ?_)))
          rw [wrapU8 (n := r / 262144) (by omega) (by omega), or240 (x := r / 262144) (by omega) (by omega)]
          exact Post.bnd (app_eq (by simp only [List.length_cons, List.length_nil]; omega)) (Post.pure rfl)
theorem put_F (r : Int) : utf_Put_F r = some (enc r) := by
  unfold utf_Put_F utf_Put_T
  exact Post.run (Post.bnd (write_F (b := []) (by simp) r) (Post.pure rfl))
theorem enc_len (r : Int) : 1 ≤ (enc r).length ∧ (enc r).length ≤ 4 := by
  unfold enc enc0
  split
  · simp
  · split
    · simp
    · split <;> simp
/-- the bytes of some runes -/
def encs : List Int → List Int
  | [] => []
  | r :: rs => enc r ++ encs rs
theorem encs_app : ∀ a b : List Int, encs (a ++ b) = encs a ++ encs b
  | [], b => rfl
  | r :: a, b => by show enc r ++ encs (a ++ b) = (enc r ++ encs a) ++ encs b; rw [encs_app a b, List.append_assoc]
theorem encs_len : ∀ a : List Int, (encs a).length ≤ 4 * a.length
  | [] => Nat.le_refl _
  | r :: a => by
    have := encs_len a
    have := enc_len r
    show (enc r ++ encs a).length ≤ _
    rw [List.length_append, List.length_cons]; omega
theorem encs_take {rs : List Int} {k : Nat} (hk : k < rs.length) : encs (rs.take (k + 1)) = encs (rs.take k) ++ enc (rs.getD k 0) := by
  rw [List.take_succ, show rs[k]? = some (rs.getD k 0) by simp [List.getD, hk], Option.toList_some, encs_app]
  show _ ++ (enc (rs.getD k 0) ++ []) = _
  rw [List.append_nil]
theorem encode_F (rs : List Int) (hn : rs.length ≤ 4194304) : utf_Encode_F rs = some (encs rs) := by
  unfold utf_Encode_F utf_Encode_T
  refine Post.run (Post.bnd (count (L := fun s : List Int × List Int × Int × Int => utf_Encode_L3 s.1 s.2.1 s.2.2.1 s.2.2.2) rs.length (fun k => (encs (rs.take k), rs, (rs.length : Int), ((k : Nat) : Int))) (r := encs rs) rfl (fun k hk => ?_) ?_) (Post.pure rfl))
  · dsimp only
    unfold utf_Encode_L3
    have hl := encs_len (rs.take k)
    rw [List.length_take] at hl
    refine Post.brT (decide_eq_true (by omega)) (Post.idx 0 k rfl hk (Post.bnd (write_F (by omega) _) (Post.pure ?_)))
    rw [encs_take hk, wrap_succ (by omega)]
  · dsimp only
    unfold utf_Encode_L3
    rw [List.take_of_length_le (Nat.le_refl _)]
    exact Post.brF (decide_eq_false (by omega)) (Post.pure rfl)
theorem sameb_F (a : List Int) : law01_same_F a a = some true := by
  unfold law01_same_F law01_same_T
  exact Post.run (Post.pure (by simp))

theorem utfWrites_F (rs : List Int) (r : Int) (hn : rs.length ≤ 1048576) (h32 : ∀ x ∈ rs, -2147483648 ≤ x ∧ x ≤ 2147483647) (hr : -2147483648 ≤ r ∧ r ≤ 2147483647) : law01_UtfWrites_F rs r = some true := by
  unfold law01_UtfWrites_F law01_UtfWrites_T
  refine Post.run (Post.bnd awake01 (Post.brF rfl (Post.bnd (count (L := fun s : List Int × Int × List Int × Int => law01_UtfWrites_L5 s.1 s.2.1 s.2.2.1 s.2.2.2) rs.length (fun k => (rs, r, encs (rs.take k), ((k : Nat) : Int))) (r := (rs, r, encs rs)) rfl (fun k hk => ?_) ?_) ?_)))
  · dsimp only
    unfold law01_UtfWrites_L5
    have hl := encs_len (rs.take k)
    rw [List.length_take] at hl
    have hx := h32 (rs.getD k 0) (by
      rw [show rs.getD k 0 = rs[k] by simp [List.getD, hk]]
      exact List.getElem_mem hk)
    have := enc_len (rs.getD k 0)
    refine Post.brT (decide_eq_true (by omega)) (Post.idx 0 k rfl hk ?_)
    rw [wrap64 (n := rs.getD k 0) (by omega) (by omega), wrap_succ (k := k) (by omega)]
    refine Post.bnd (refBytes_F _) (Post.bnd (app_eq (by omega)) (Post.pure ?_))
    rw [encs_take hk]
  · dsimp only
    unfold law01_UtfWrites_L5
    rw [List.take_of_length_le (Nat.le_refl _)]
    exact Post.brF (decide_eq_false (by omega)) (Post.pure rfl)
  · dsimp only
    rw [wrap64 (n := r) (by omega) (by omega)]
    have tail : ∀ {v : Bool}, scl r = v → Post (.bnd (utf_Encode_F rs) fun c_6 => .bnd (law01_same_F c_6 (encs rs)) fun c_7 => .br c_7 (.bnd (utf_Put_F r) fun c_8 => .bnd (ref01_Bytes_F r) fun c_9 => .bnd (law01_same_F c_8 c_9) fun c_10 => .br c_10 (.bnd (utf_Scalar_F r) fun c_11 => .pure (c_11 == v)) (.pure false)) (.pure false)) (· = true) := fun {v} hv =>
      Post.bnd (encode_F rs (by omega)) (Post.bnd (sameb_F _) (Post.brT rfl (Post.bnd (put_F r) (Post.bnd (refBytes_F r) (Post.bnd (sameb_F _) (Post.brT rfl (Post.bnd (scl_F r) (Post.pure (by rw [hv]; simp)))))))))
    refine Post.br (fun c1 => Post.br (fun c2 => Post.br (fun c3 => tail ?_) (fun c3 => tail ?_)) (fun c2 => tail ?_)) (fun c1 => tail ?_)
    · have c1 := of_decide_eq_true c1
      have c3 := of_decide_eq_true c3
      exact decide_eq_true (by omega)
    · have c1 := of_decide_eq_true c1
      have c2 := of_decide_eq_true c2
      have c3 := of_decide_eq_false c3
      unfold scl
      by_cases h : r > 57343
      · rw [decide_eq_true h]; exact decide_eq_true (by omega)
      · rw [decide_eq_false h]; exact decide_eq_false (by omega)
    · have c2 := of_decide_eq_false c2
      exact decide_eq_false (by omega)
    · have c1 := of_decide_eq_false c1
      exact decide_eq_false (by omega)

theorem utfWrites_all (x : Tys.I [.sl (.int .i32), .int .i32]) (h : WfAll [.sl (.int .i32), .int .i32] x) (hb : bulkAll [.sl (.int .i32), .int .i32] x ≤ 1048576) : law01_UtfWrites_F x.1 x.2.1 = some true := by
  simp only [bulkAll, bulk] at hb
  exact utfWrites_F _ _ (by omega) (fun n hn => wf_i32 (h.1.2 n hn)) (wf_i32 h.2.1)

end Go.Proofs.Ytecknolpakmlpaa
