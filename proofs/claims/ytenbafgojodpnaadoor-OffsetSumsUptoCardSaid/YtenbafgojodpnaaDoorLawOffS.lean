/-
  The laws of offsets: spans side by side.
-/
import Derived.Test.YtenbafgojodpnaaDoorLawOff
import Derived.Test.YtenbafgojodpnaaDoorLawUtfW
namespace Go.Proofs.YtenbafgojodpnaaDoor
set_option linter.all false

theorem wl_get : ∀ (rs : List Int) (p k : Nat), k < rs.length → (wl rs p).getD k 0 = p + (encs (rs.take k)).length
  | [], _, _, h => by cases h
  | r :: rs, p, 0, _ => rfl
  | r :: rs, p, k + 1, h => by
    show (wl rs (p + (enc r).length)).getD k 0 = p + (enc r ++ encs (rs.take k)).length
    rw [wl_get rs _ k (by simpa using h), List.length_append]
    omega
theorem num_encs (rs : List Int) : num (encs rs) = rs.length := by
  unfold num
  rw [(starts_encs0 rs).1, wl_len]
theorem bd_encs (rs : List Int) {k : Nat} (h : k ≤ rs.length) : bd (encs rs) k = (encs (rs.take k)).length := by
  by_cases h1 : k < rs.length
  · rw [bd_in (by rw [num_encs]; exact h1), (starts_encs0 rs).1, wl_get rs 0 k h1]
    omega
  · rw [bd_end (by rw [num_encs]; omega), List.take_of_length_le (by omega)]
theorem encs_cut {rs : List Int} {p q : Nat} (h1 : p ≤ q) (h2 : q ≤ rs.length) : ((encs rs).take (encs (rs.take q)).length).drop (encs (rs.take p)).length = encs ((rs.take q).drop p) := by
  have e1 : encs rs = encs (rs.take q) ++ encs (rs.drop q) := by rw [← encs_app, List.take_append_drop]
  have e2 : encs (rs.take q) = encs (rs.take p) ++ encs ((rs.take q).drop p) := by
    rw [← encs_app]
    congr 1
    have := List.take_append_drop p (rs.take q)
    rw [List.take_take, Nat.min_eq_left h1] at this
    exact this.symm
  rw [e1, List.take_left' rfl, e2, List.drop_left' rfl]
theorem tmod_at {a : Int} {m : Nat} (h0 : 0 ≤ a) (hm : 0 < m) : ∃ k : Nat, a.tmod (m : Int) = (k : Int) ∧ k < m := by
  rw [Int.tmod_eq_emod_of_nonneg h0]
  exact ⟨(a % (m : Int)).toNat, by have := Int.emod_nonneg a (b := (m : Int)) (by omega); omega, by
    have := Int.emod_lt_of_pos a (b := (m : Int)) (by omega)
    have := Int.emod_nonneg a (b := (m : Int)) (by omega)
    omega⟩
theorem span_in (b : List Int) {p q : Nat} (h1 : p ≤ q) (h2 : q ≤ num b) : offset_Index_Span_F (ix b) (p : Int) (q : Int) = some ((bd b p : Int), (bd b q : Int), none) := by
  unfold offset_Index_Span_F offset_Index_Span_T
  exact Post.run (Post.bnd (byte_in b (by omega)) (Post.brF rfl (Post.bnd (byte_in b h2) (Post.brF rfl (Post.brF (decide_eq_false (by omega)) (Post.pure rfl))))))
theorem offsetSums_F (raw : List Int) (i j k : Int) (hn : raw.length ≤ 1048576) (hi : 0 ≤ i ∧ i ≤ 255) (hj : 0 ≤ j ∧ j ≤ 255) (hk : 0 ≤ k ∧ k ≤ 255) : law02_OffsetSums_F raw i j k = some true := by
  unfold law02_OffsetSums_F law02_OffsetSums_T
  have hb := encs_bytes raw
  have hl := encs_len raw
  have hc := cnt_F (encs raw)
  rw [num_encs] at hc
  obtain ⟨p, hp, p1⟩ := tmod_at (m := raw.length + 1) hi.1 (by omega)
  obtain ⟨q0, hq, q1⟩ := tmod_at (m := raw.length + 1 - p) hj.1 (by omega)
  obtain ⟨s0, hs, s1⟩ := tmod_at (m := raw.length + 1 - (p + q0)) hk.1 (by omega)
  refine Post.run (Post.bnd awake02 (Post.brF rfl (Post.bnd (encode_F raw (by omega)) (Post.bnd (of_F hb (by omega)) (Post.bnd hc ?_)))))
  have e1 : IntKind.i64.wrap ((raw.length : Int) + 1) = ((raw.length + 1 : Nat) : Int) := wrap_succ (by omega)
  have e2 : IntKind.i64.wrap (((raw.length + 1 : Nat) : Int) - (p : Int)) = ((raw.length + 1 - p : Nat) : Int) := by rw [wrap64 (by omega) (by omega)]; omega
  have e3 : IntKind.i64.wrap ((p : Int) + (q0 : Int)) = ((p + q0 : Nat) : Int) := by rw [wrap64 (by omega) (by omega)]; omega
  have e4 : IntKind.i64.wrap (((raw.length + 1 : Nat) : Int) - ((p + q0 : Nat) : Int)) = ((raw.length + 1 - (p + q0) : Nat) : Int) := by rw [wrap64 (by omega) (by omega)]; omega
  have e5 : IntKind.i64.wrap (((p + q0 : Nat) : Int) + (s0 : Int)) = ((p + q0 + s0 : Nat) : Int) := by rw [wrap64 (by omega) (by omega)]; omega
  rw [wrap64 (n := i) (by omega) (by omega), wrap64 (n := j) (by omega) (by omega), wrap64 (n := k) (by omega) (by omega), e1, hp, e2, hq, e3, e4, hs, e5]
  have hq2 : p + q0 ≤ num (encs raw) := by rw [num_encs]; omega
  have hs2 : p + q0 + s0 ≤ num (encs raw) := by rw [num_encs]; omega
  refine Post.brT (by simp; omega) (Post.brT (by simp; omega) (Post.brT (by simp; omega) ?_))
  refine Post.bnd (span_in (encs raw) (p := p) (q := p + q0) (by omega) hq2) (Post.bnd (span_in (encs raw) (p := p + q0) (q := p + q0 + s0) (by omega) hs2) (Post.bnd (span_in (encs raw) (p := p) (q := p + q0 + s0) (by omega) hs2) ?_))
  refine Post.brF rfl (Post.brF rfl (Post.brF rfl (Post.brF (by simp) (Post.brF (by simp) (Post.brF (by simp) (Post.brF (by simp) ?_))))))
  dsimp only
  rw [bd_encs raw (k := p) (by omega), bd_encs raw (k := p + q0) (by omega)]
  have hle : (encs (raw.take (p + q0))).length ≤ (encs raw).length := by
    rw [← bd_encs raw (k := p + q0) (by omega)]
    exact bd_le hb hq2
  have hlp : (encs (raw.take p)).length ≤ (encs (raw.take (p + q0))).length := by
    rw [← bd_encs raw (k := p) (by omega), ← bd_encs raw (k := p + q0) (by omega)]
    by_cases e : q0 = 0
    · subst e; exact Nat.le_refl _
    · exact Nat.le_of_lt (bd_rise hb (by omega) hq2)
  refine Post.bnd (cut_drop rfl rfl hlp hle) (Post.bnd (cut_drop (m := p) (n := p + q0) rfl rfl (by omega) (by omega)) (Post.bnd (encode_F _ (by rw [List.length_drop, List.length_take]; omega)) (Post.pure ?_)))
  rw [encs_cut (p := p) (q := p + q0) (by omega) (by omega)]
  simp

theorem offsetSums_all (x : Tys.I [.sl (.int .i32), .int .u8, .int .u8, .int .u8]) (h : WfAll [.sl (.int .i32), .int .u8, .int .u8, .int .u8] x) (hb : bulkAll [.sl (.int .i32), .int .u8, .int .u8, .int .u8] x ≤ 1048576) : law02_OffsetSums_F x.1 x.2.1 x.2.2.1 x.2.2.2.1 = some true := by
  simp only [bulkAll, bulk] at hb
  exact offsetSums_F _ _ _ _ (by omega) (wf_u8 h.2.1) (wf_u8 h.2.2.1) (wf_u8 h.2.2.2.1)

end Go.Proofs.YtenbafgojodpnaaDoor
