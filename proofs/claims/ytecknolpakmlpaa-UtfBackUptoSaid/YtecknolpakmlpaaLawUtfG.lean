/-
  The laws of utf return true: what the document's answer is made of.
-/
import Derived.Test.YtecknolpakmlpaaLawUtfA
import Derived.Test.YtecknolpakmlpaaLawUtfW
namespace Go.Proofs.Ytecknolpakmlpaa
set_option linter.all false

/-! ### a scalar's bytes -/
theorem l13_2 (r : Int) : loopW (fun s : Int × Int × Int × Int => (ref01_Bytes_L13 s.1 s.2.1 s.2.2.1 s.2.2.2).run) (r, 2, 1, 1) = some (r, 2, 64) := by
  have a1 : IntKind.i64.wrap (1 * 64) = 64 := by decide
  have b1 : IntKind.i64.wrap (1 + 1) = 2 := by decide
  refine loopW_next (s' := (r, 2, 64, 2)) (Post.run (Post.brT rfl (Post.pure ?_))) (loopW_done (Post.run (Post.brF rfl (Post.pure rfl))))
  dsimp only; rw [a1, b1]
theorem l13_3 (r : Int) : loopW (fun s : Int × Int × Int × Int => (ref01_Bytes_L13 s.1 s.2.1 s.2.2.1 s.2.2.2).run) (r, 3, 1, 1) = some (r, 3, 4096) := by
  have a1 : IntKind.i64.wrap (1 * 64) = 64 := by decide
  have b1 : IntKind.i64.wrap (1 + 1) = 2 := by decide
  have a2 : IntKind.i64.wrap (64 * 64) = 4096 := by decide
  have b2 : IntKind.i64.wrap (2 + 1) = 3 := by decide
  refine loopW_next (s' := (r, 3, 64, 2)) (Post.run (Post.brT rfl (Post.pure ?_))) (loopW_next (s' := (r, 3, 4096, 3)) (Post.run (Post.brT rfl (Post.pure ?_))) (loopW_done (Post.run (Post.brF rfl (Post.pure rfl)))))
  · dsimp only; rw [a1, b1]
  · dsimp only; rw [a2, b2]
theorem l13_4 (r : Int) : loopW (fun s : Int × Int × Int × Int => (ref01_Bytes_L13 s.1 s.2.1 s.2.2.1 s.2.2.2).run) (r, 4, 1, 1) = some (r, 4, 262144) := by
  have a1 : IntKind.i64.wrap (1 * 64) = 64 := by decide
  have b1 : IntKind.i64.wrap (1 + 1) = 2 := by decide
  have a2 : IntKind.i64.wrap (64 * 64) = 4096 := by decide
  have b2 : IntKind.i64.wrap (2 + 1) = 3 := by decide
  have a3 : IntKind.i64.wrap (4096 * 64) = 262144 := by decide
  have b3 : IntKind.i64.wrap (3 + 1) = 4 := by decide
  refine loopW_next (s' := (r, 4, 64, 2)) (Post.run (Post.brT rfl (Post.pure ?_))) (loopW_next (s' := (r, 4, 4096, 3)) (Post.run (Post.brT rfl (Post.pure ?_))) (loopW_next (s' := (r, 4, 262144, 4)) (Post.run (Post.brT rfl (Post.pure ?_))) (loopW_done (Post.run (Post.brF rfl (Post.pure rfl))))))
  · dsimp only; rw [a1, b1]
  · dsimp only; rw [a2, b2]
  · dsimp only; rw [a3, b3]

theorem l22_more {r q : Int} {out : List Int} (h0 : 0 ≤ r) (h1 : r ≤ 2097152) (q0 : 1 ≤ q) (q1 : q ≤ 4096) (ho : out.length ≤ 10) {R : List Int}
    (hR : loopW (fun s : Int × List Int × Int => (ref01_Bytes_L22 s.1 s.2.1 s.2.2).run) (r, out ++ [128 + r / q % 64], q) = some R) :
    loopW (fun s : Int × List Int × Int => (ref01_Bytes_L22 s.1 s.2.1 s.2.2).run) (r, out, q * 64) = some R := by
  refine loopW_next (Post.run ?_) hR
  dsimp only
  unfold ref01_Bytes_L22
  have e1 : (q * 64).tdiv 64 = q := by rw [Int.tdiv_eq_ediv_of_nonneg (by omega)]; omega
  have e2 : IntKind.i64.wrap q = q := wrap64 (by omega) (by omega)
  have e3 : r.tdiv q = r / q := Int.tdiv_eq_ediv_of_nonneg h0
  have hd0 : 0 ≤ r / q := Int.ediv_nonneg h0 (by omega)
  have hd1 : r / q ≤ r := Int.ediv_le_self q h0
  rw [e1, e2, e3, wrap64 (n := r / q) (by omega) (by omega), Int.tmod_eq_emod_of_nonneg hd0, wrap64 (by omega) (by omega), wrapU8 (by omega) (by omega)]
  exact Post.brT (decide_eq_true (by omega)) (Post.brT (by simp; omega) (Post.bnd (app_eq (by simp only [List.length_singleton]; omega)) (Post.pure rfl)))
theorem l22_end {r : Int} {out : List Int} : loopW (fun s : Int × List Int × Int => (ref01_Bytes_L22 s.1 s.2.1 s.2.2).run) (r, out, 1) = some out :=
  loopW_done (Post.run (Post.brF rfl (Post.pure rfl)))
theorem l22_1 {r : Int} {a : Int} (h0 : 0 ≤ r) (h1 : r ≤ 2097152) : loopW (fun s : Int × List Int × Int => (ref01_Bytes_L22 s.1 s.2.1 s.2.2).run) (r, [a], 64) = some [a, 128 + r / 1 % 64] :=
  l22_more (q := 1) h0 h1 (by omega) (by omega) (by simp) l22_end
theorem l22_2 {r : Int} {a : Int} (h0 : 0 ≤ r) (h1 : r ≤ 2097152) : loopW (fun s : Int × List Int × Int => (ref01_Bytes_L22 s.1 s.2.1 s.2.2).run) (r, [a], 4096) = some [a, 128 + r / 64 % 64, 128 + r / 1 % 64] :=
  l22_more (q := 64) h0 h1 (by omega) (by omega) (by simp) (l22_more (q := 1) h0 h1 (by omega) (by omega) (by simp) l22_end)
theorem l22_3 {r : Int} {a : Int} (h0 : 0 ≤ r) (h1 : r ≤ 2097152) : loopW (fun s : Int × List Int × Int => (ref01_Bytes_L22 s.1 s.2.1 s.2.2).run) (r, [a], 262144) = some [a, 128 + r / 4096 % 64, 128 + r / 64 % 64, 128 + r / 1 % 64] :=
  l22_more (q := 4096) h0 h1 (by omega) (by omega) (by simp) (l22_more (q := 64) h0 h1 (by omega) (by omega) (by simp) (l22_more (q := 1) h0 h1 (by omega) (by omega) (by simp) l22_end))

theorem lead_byte {r d k : Int} (h0 : 0 ≤ r) (h1 : r ≤ 2097152) (hd : 1 ≤ d) (hq : 0 ≤ k + r / d) (hq2 : k + r / d ≤ 255) : IntKind.u8.wrap (IntKind.i64.wrap (k + IntKind.i64.wrap (r.tdiv d))) = k + r / d := by
  have hd0 : 0 ≤ r / d := Int.ediv_nonneg h0 (by omega)
  have hd1 : r / d ≤ r := Int.ediv_le_self d h0
  rw [Int.tdiv_eq_ediv_of_nonneg h0, wrap64 (n := r / d) (by omega) (by omega), wrap64 (by omega) (by omega), wrapU8 hq hq2]

theorem sur {r : Int} (h : 0 ≤ r ∧ r < 55296 ∨ 57343 < r ∧ r ≤ 1114111) : (Tr.br (decide (r < 0)) (Tr.pure (r, true)) (Tr.br (decide (r > 1114111)) (Tr.pure (r, true)) (Tr.br (decide (r ≥ 55296)) (Tr.pure (r, decide (r ≤ 57343))) (Tr.pure (r, false)))) : Tr (Int × Bool)).run = some (r, false) := by
  refine Post.run (Post.brF (decide_eq_false (by omega)) (Post.brF (decide_eq_false (by omega)) (Post.br (fun c => Post.pure ?_) (fun _ => Post.pure rfl))))
  have c := of_decide_eq_true c
  rw [decide_eq_false (by omega)]
theorem surBad {r : Int} (h : r < 0 ∨ 1114111 < r ∨ 55296 ≤ r ∧ r ≤ 57343) : (Tr.br (decide (r < 0)) (Tr.pure (r, true)) (Tr.br (decide (r > 1114111)) (Tr.pure (r, true)) (Tr.br (decide (r ≥ 55296)) (Tr.pure (r, decide (r ≤ 57343))) (Tr.pure (r, false)))) : Tr (Int × Bool)).run = some (r, true) := by
  refine Post.run (Post.br (fun _ => Post.pure rfl) (fun c1 => Post.br (fun _ => Post.pure rfl) (fun c2 => ?_)))
  have c1 := of_decide_eq_false c1
  have c2 := of_decide_eq_false c2
  refine Post.brT (decide_eq_true (by omega)) (Post.pure ?_)
  rw [decide_eq_true (by omega)]

theorem bytes1 {r : Int} (h0 : 0 ≤ r) (h1 : r < 128) : ref01_Bytes_F r = some [r] := by
  unfold ref01_Bytes_F ref01_Bytes_T
  refine Post.run (Post.bnd (sur (by omega)) (Post.brF rfl ?_))
  dsimp only
  repeat (first | refine Post.brT (decide_eq_true (by omega)) ?_ | refine Post.brF (decide_eq_false (by omega)) ?_ | refine Post.brT (beq_iff_eq.2 (by omega)) ?_ | refine Post.brF (beq_eq_false_iff_ne.2 (by omega)) ?_ | refine Post.brT (by rfl) ?_ | refine Post.brF (by rfl) ?_)
  exact Post.pure (by rw [wrapU8 (by omega) (by omega)])
theorem bytes2 {r : Int} (h0 : 128 ≤ r) (h1 : r < 2048) : ref01_Bytes_F r = some [192 + r / 64, 128 + r % 64] := by
  unfold ref01_Bytes_F ref01_Bytes_T
  refine Post.run (Post.bnd (sur (by omega)) (Post.brF rfl ?_))
  dsimp only
  repeat (first | refine Post.brT (decide_eq_true (by omega)) ?_ | refine Post.brF (decide_eq_false (by omega)) ?_ | refine Post.brT (beq_iff_eq.2 (by omega)) ?_ | refine Post.brF (beq_eq_false_iff_ne.2 (by omega)) ?_ | refine Post.brT (by rfl) ?_ | refine Post.brF (by rfl) ?_)
  refine Post.bnd (l13_2 _) ?_
  repeat (first | refine Post.brT (decide_eq_true (by omega)) ?_ | refine Post.brF (decide_eq_false (by omega)) ?_ | refine Post.brT (beq_iff_eq.2 (by omega)) ?_ | refine Post.brF (beq_eq_false_iff_ne.2 (by omega)) ?_ | refine Post.brT (by rfl) ?_ | refine Post.brF (by rfl) ?_)
  refine Post.bnd (app_eq (by simp)) (Post.bnd (l22_1 (by omega) (by omega)) (Post.pure ?_))
  rw [lead_byte (r := r) (k := 192) (d := 64) (by omega) (by omega) (by omega) (by omega) (by omega), Int.ediv_one]
theorem bytes3 {r : Int} (h0 : 2048 ≤ r) (h1 : r < 65536) (hs : r < 55296 ∨ 57343 < r) : ref01_Bytes_F r = some [224 + r / 4096, 128 + r / 64 % 64, 128 + r % 64] := by
  unfold ref01_Bytes_F ref01_Bytes_T
  refine Post.run (Post.bnd (sur (by omega)) (Post.brF rfl ?_))
  dsimp only
  rcases hs with hs | hs
  all_goals
    repeat (first | refine Post.brT (decide_eq_true (by omega)) ?_ | refine Post.brF (decide_eq_false (by omega)) ?_ | refine Post.brT (beq_iff_eq.2 (by omega)) ?_ | refine Post.brF (beq_eq_false_iff_ne.2 (by omega)) ?_ | refine Post.brT (by rfl) ?_ | refine Post.brF (by rfl) ?_)
    refine Post.bnd (l13_3 _) ?_
    repeat (first | refine Post.brT (decide_eq_true (by omega)) ?_ | refine Post.brF (decide_eq_false (by omega)) ?_ | refine Post.brT (beq_iff_eq.2 (by omega)) ?_ | refine Post.brF (beq_eq_false_iff_ne.2 (by omega)) ?_ | refine Post.brT (by rfl) ?_ | refine Post.brF (by rfl) ?_)
    refine Post.bnd (app_eq (by simp)) (Post.bnd (l22_2 (by omega) (by omega)) (Post.pure ?_))
    rw [lead_byte (r := r) (k := 224) (d := 4096) (by omega) (by omega) (by omega) (by omega) (by omega), Int.ediv_one]
theorem bytes4 {r : Int} (h0 : 65536 ≤ r) (h1 : r ≤ 1114111) : ref01_Bytes_F r = some [240 + r / 262144, 128 + r / 4096 % 64, 128 + r / 64 % 64, 128 + r % 64] := by
  unfold ref01_Bytes_F ref01_Bytes_T
  refine Post.run (Post.bnd (sur (by omega)) (Post.brF rfl ?_))
  dsimp only
  repeat (first | refine Post.brT (decide_eq_true (by omega)) ?_ | refine Post.brF (decide_eq_false (by omega)) ?_ | refine Post.brT (beq_iff_eq.2 (by omega)) ?_ | refine Post.brF (beq_eq_false_iff_ne.2 (by omega)) ?_ | refine Post.brT (by rfl) ?_ | refine Post.brF (by rfl) ?_)
  refine Post.bnd (l13_4 _) ?_
  repeat (first | refine Post.brT (decide_eq_true (by omega)) ?_ | refine Post.brF (decide_eq_false (by omega)) ?_ | refine Post.brT (beq_iff_eq.2 (by omega)) ?_ | refine Post.brF (beq_eq_false_iff_ne.2 (by omega)) ?_ | refine Post.brT (by rfl) ?_ | refine Post.brF (by rfl) ?_)
  refine Post.bnd (app_eq (by simp)) (Post.bnd (l22_3 (by omega) (by omega)) (Post.pure ?_))
  rw [lead_byte (r := r) (k := 240) (d := 262144) (by omega) (by omega) (by omega) (by omega) (by omega), Int.ediv_one]
theorem bytesBad {r : Int} (h : r < 0 ∨ 1114111 < r ∨ 55296 ≤ r ∧ r ≤ 57343) : ref01_Bytes_F r = some [239, 191, 189] := by
  unfold ref01_Bytes_F ref01_Bytes_T
  refine Post.run (Post.bnd (surBad h) (Post.brT rfl ?_))
  repeat (first | refine Post.brT (decide_eq_true (by omega)) ?_ | refine Post.brF (decide_eq_false (by omega)) ?_ | refine Post.brT (beq_iff_eq.2 (by omega)) ?_ | refine Post.brF (beq_eq_false_iff_ne.2 (by omega)) ?_ | refine Post.brT (by rfl) ?_ | refine Post.brF (by rfl) ?_)
  refine Post.bnd (l13_3 _) ?_
  repeat (first | refine Post.brT (decide_eq_true (by omega)) ?_ | refine Post.brF (decide_eq_false (by omega)) ?_ | refine Post.brT (beq_iff_eq.2 (by omega)) ?_ | refine Post.brF (beq_eq_false_iff_ne.2 (by omega)) ?_ | refine Post.brT (by rfl) ?_ | refine Post.brF (by rfl) ?_)
  refine Post.bnd (app_eq (by simp)) (Post.bnd (l22_2 (by omega) (by omega)) (Post.pure ?_))
  rw [lead_byte (r := 65533) (k := 224) (d := 4096) (by omega) (by omega) (by omega) (by omega) (by omega)]; rfl

/-! ### all of them -/
theorem refBytes_F (r : Int) : ref01_Bytes_F r = some (enc r) := by
  unfold enc fixr
  by_cases h : scl r = true
  · rw [if_pos h]
    have h := of_decide_eq_true h
    unfold enc0
    by_cases h1 : r < 128
    · rw [if_pos h1]; exact bytes1 (by omega) h1
    · rw [if_neg h1]
      by_cases h2 : r < 2048
      · rw [if_pos h2]; exact bytes2 (by omega) h2
      · rw [if_neg h2]
        by_cases h3 : r < 65536
        · rw [if_pos h3]; exact bytes3 (by omega) h3 (by omega)
        · rw [if_neg h3]; exact bytes4 (by omega) (by omega)
  · rw [if_neg h]
    have h : ¬ (0 ≤ r ∧ r < 55296 ∨ 57343 < r ∧ r ≤ 1114111) := fun hh => h (decide_eq_true hh)
    exact bytesBad (by omega)
theorem put_F (r : Int) : utf_Put_F r = some (enc r) := by
  unfold utf_Put_F utf_Put_T
  exact Post.run (Post.bnd (write_F (b := []) (by simp) r) (Post.pure rfl))
theorem sameb_F (a : List Int) : law01_same_F a a = some true := by
  unfold law01_same_F law01_same_T
  exact Post.run (Post.pure (by simp))

theorem utfWrites_F (rs : List Int) (r : Int) (hn : rs.length ≤ 1048576) (h32 : ∀ x ∈ rs, -2147483648 ≤ x ∧ x ≤ 2147483647) (hr : -2147483648 ≤ r ∧ r ≤ 2147483647) : law01_UtfWrites_F rs r = some true := by
  unfold law01_UtfWrites_F law01_UtfWrites_T
  refine Post.run (Post.bnd awake01 (Post.brF rfl (Post.bnd (count (L := fun s : List Int × Int × List Int × Int => law01_UtfWrites_L5 s.1 s.2.1 s.2.2.1 s.2.2.2) rs.length (fun k => (rs, r, encs (rs.take k), ((k : Nat) : Int))) (r := (rs, r, encs rs)) rfl (fun k hk => ?_) ?_) ?_)))
  · dsimp only
    unfold law01_UtfWrites_L5
    have hl := encs_len (rs.take k)
    rw [List.length_take] at hl
    have hx := h32 (rs.getD k 0) (by
      rw [show rs.getD k 0 = rs[k] by simp [List.getD, hk]]
      exact List.getElem_mem hk)
    have := enc_len (rs.getD k 0)
    refine Post.brT (decide_eq_true (by omega)) (Post.idx 0 k rfl hk ?_)
    rw [wrap64 (n := rs.getD k 0) (by omega) (by omega), wrap_succ (k := k) (by omega)]
    refine Post.bnd (refBytes_F _) (Post.bnd (app_eq (by omega)) (Post.pure ?_))
    rw [encs_take hk]
  · dsimp only
    unfold law01_UtfWrites_L5
    rw [List.take_of_length_le (Nat.le_refl _)]
    exact Post.brF (decide_eq_false (by omega)) (Post.pure rfl)
  · dsimp only
    rw [wrap64 (n := r) (by omega) (by omega)]
    have tail : ∀ {v : Bool}, scl r = v → Post (.bnd (utf_Encode_F rs) fun c_6 => .bnd (law01_same_F c_6 (encs rs)) fun c_7 => .br c_7 (.bnd (utf_Put_F r) fun c_8 => .bnd (ref01_Bytes_F r) fun c_9 => .bnd (law01_same_F c_8 c_9) fun c_10 => .br c_10 (.bnd (utf_Scalar_F r) fun c_11 => .pure (c_11 == v)) (.pure false)) (.pure false)) (· = true) := fun {v} hv =>
      Post.bnd (encode_F rs (by omega)) (Post.bnd (sameb_F _) (Post.brT rfl (Post.bnd (put_F r) (Post.bnd (refBytes_F r) (Post.bnd (sameb_F _) (Post.brT rfl (Post.bnd (scl_F r) (Post.pure (by rw [hv]; simp)))))))))
    refine Post.br (fun c1 => Post.br (fun c2 => Post.br (fun c3 => tail ?_) (fun c3 => tail ?_)) (fun c2 => tail ?_)) (fun c1 => tail ?_)
    · have c1 := of_decide_eq_true c1
      have c3 := of_decide_eq_true c3
      exact decide_eq_true (by omega)
    · have c1 := of_decide_eq_true c1
      have c2 := of_decide_eq_true c2
      have c3 := of_decide_eq_false c3
      unfold scl
      by_cases h : r > 57343
      · rw [decide_eq_true h]; exact decide_eq_true (by omega)
      · rw [decide_eq_false h]; exact decide_eq_false (by omega)
    · have c2 := of_decide_eq_false c2
      exact decide_eq_false (by omega)
    · have c1 := of_decide_eq_false c1
      exact decide_eq_false (by omega)

theorem utfWrites_all (x : Tys.I [.sl (.int .i32), .int .i32]) (h : WfAll [.sl (.int .i32), .int .i32] x) (hb : bulkAll [.sl (.int .i32), .int .i32] x ≤ 1048576) : law01_UtfWrites_F x.1 x.2.1 = some true := by
  simp only [bulkAll, bulk] at hb
  exact utfWrites_F _ _ (by omega) (fun n hn => wf_i32 (h.1.2 n hn)) (wf_i32 h.2.1)

end Go.Proofs.Ytecknolpakmlpaa
