/-
  The laws of utf return true: each place is read as the document says.
-/
import Derived.Test.YtbldbneianlolaaLawUtfE
namespace Go.Proofs.Ytbldbneianlolaa
set_option linter.all false

theorem cut_gg {b : List Int} {p n : Nat} (h : p + n ≤ b.length) {q : Int} (hq : q = ((p + n : Nat) : Int)) : cut b (p : Int) q = some (tab n (gg b p)) := by
  rw [cut_drop rfl hq (by omega) h]
  refine congrArg some (tab_ext 256 (by simp; omega) (fun k hk => ?_))
  have : p + k < p + n := by omega
  simp [List.getD, List.getElem?_take, gg, this]

noncomputable abbrev nLoop : List Int × Int × Int → Option (Sum (List Int × Int) (Int × Int)) := loopW (fun s => (ref01_Next_L4 s.1 s.2.1 s.2.2).run)
theorem nl_hit {b : List Int} (hl : b.length ≤ 2097152) {p n : Nat} {v : Int} (h : p + n ≤ b.length) (h4 : n ≤ 4) (hv : ref01_value_F (tab n (gg b p)) = some v) (v0 : 0 ≤ v) : nLoop (b, (p : Int), (n : Int)) = some (.inr (v, (n : Int))) := by
  refine loopW_done (Post.run ?_)
  dsimp only
  unfold ref01_Next_L4
  have hw : IntKind.i64.wrap ((p : Int) + (n : Int)) = ((p + n : Nat) : Int) := by rw [wrap64 (by omega) (by omega)]; omega
  rw [hw]
  exact Post.brT (decide_eq_true (by omega)) (Post.brT (decide_eq_true (by omega)) (Post.bnd (cut_gg h rfl) (Post.bnd hv (Post.brT (decide_eq_true v0) (Post.pure rfl)))))
theorem nl_miss {b : List Int} (hl : b.length ≤ 2097152) {p n : Nat} (h : p + n ≤ b.length → ref01_value_F (tab n (gg b p)) = some (-1)) (hn : n ≤ 4) {R : Sum (List Int × Int) (Int × Int)}
    (hR : nLoop (b, (p : Int), ((n + 1 : Nat) : Int)) = some R) (hR2 : b.length < p + n → R = .inl (b, (p : Int))) (hp : p ≤ b.length) : nLoop (b, (p : Int), (n : Int)) = some R := by
  have hw : IntKind.i64.wrap ((p : Int) + (n : Int)) = ((p + n : Nat) : Int) := by rw [wrap64 (by omega) (by omega)]; omega
  have hw2 : IntKind.i64.wrap ((n : Int) + 1) = ((n + 1 : Nat) : Int) := by rw [wrap64 (by omega) (by omega)]; omega
  by_cases hlt : p + n ≤ b.length
  · refine loopW_next (Post.run ?_) hR
    dsimp only
    unfold ref01_Next_L4
    rw [hw, hw2]
    exact Post.brT (decide_eq_true (by omega)) (Post.brT (decide_eq_true (by omega)) (Post.bnd (cut_gg hlt rfl) (Post.bnd (h hlt) (Post.brF rfl (Post.pure rfl)))))
  · rw [hR2 (by omega)]
    refine loopW_done (Post.run ?_)
    dsimp only
    unfold ref01_Next_L4
    rw [hw]
    exact Post.brT (decide_eq_true (by omega)) (Post.brF (decide_eq_false (by omega)) (Post.pure rfl))
theorem nl_end {b : List Int} {p : Int} : nLoop (b, p, ((5 : Nat) : Int)) = some (.inl (b, p)) :=
  loopW_done (Post.run (Post.brF rfl (Post.pure rfl)))
theorem nl_none {b : List Int} (hl : b.length ≤ 2097152) {p : Nat} (hp : p ≤ b.length) (h1 : ref01_value_F [gg b p 0] = some (-1)) (h2 : ref01_value_F [gg b p 0, gg b p 1] = some (-1)) (h3 : ref01_value_F [gg b p 0, gg b p 1, gg b p 2] = some (-1))
    (h4 : ref01_value_F [gg b p 0, gg b p 1, gg b p 2, gg b p 3] = some (-1)) : nLoop (b, (p : Int), 1) = some (.inl (b, (p : Int))) :=
  nl_miss hl (n := 1) (fun _ => h1) (by omega) (nl_miss hl (n := 2) (fun _ => h2) (by omega) (nl_miss hl (n := 3) (fun _ => h3) (by omega) (nl_miss hl (n := 4) (fun _ => h4) (by omega) nl_end (fun _ => rfl) hp) (fun _ => rfl) hp) (fun _ => rfl) hp) (fun _ => rfl) hp

noncomputable abbrev mLoop : List Int × Int × Int → Option Int := loopW (fun s => (ref01_Next_L10 s.1 s.2.1 s.2.2).run)
theorem ml_stop {b : List Int} (hl : b.length ≤ 2097152) {p n : Nat} (hn : n < 3) (h : p + n + 1 ≤ b.length → ref01_begins_F (tab (n + 1) (gg b p)) = some false) (hp : p ≤ b.length) : mLoop (b, (p : Int), (n : Int)) = some (n : Int) := by
  refine loopW_done (Post.run ?_)
  dsimp only
  unfold ref01_Next_L10
  have hw : IntKind.i64.wrap ((p : Int) + (n : Int)) = ((p + n : Nat) : Int) := by rw [wrap64 (by omega) (by omega)]; omega
  have hw2 : IntKind.i64.wrap (((p + n : Nat) : Int) + 1) = ((p + (n + 1) : Nat) : Int) := by rw [wrap64 (by omega) (by omega)]; omega
  rw [hw, hw2]
  refine Post.brT (decide_eq_true (by omega)) ?_
  by_cases hlt : p + n + 1 ≤ b.length
  · exact Post.brT (decide_eq_true (by omega)) (Post.bnd (cut_gg (by omega) rfl) (Post.bnd (h hlt) (Post.brF rfl (Post.pure rfl))))
  · exact Post.brF (decide_eq_false (by omega)) (Post.pure rfl)
theorem ml_go {b : List Int} (hl : b.length ≤ 2097152) {p n : Nat} (hn : n < 3) (hlt : p + n + 1 ≤ b.length) (h : ref01_begins_F (tab (n + 1) (gg b p)) = some true) {m : Int} (hm : mLoop (b, (p : Int), ((n + 1 : Nat) : Int)) = some m) : mLoop (b, (p : Int), (n : Int)) = some m := by
  refine loopW_next (Post.run ?_) hm
  dsimp only
  unfold ref01_Next_L10
  have hw : IntKind.i64.wrap ((p : Int) + (n : Int)) = ((p + n : Nat) : Int) := by rw [wrap64 (by omega) (by omega)]; omega
  have hw2 : IntKind.i64.wrap (((p + n : Nat) : Int) + 1) = ((p + (n + 1) : Nat) : Int) := by rw [wrap64 (by omega) (by omega)]; omega
  have hw3 : IntKind.i64.wrap ((n : Int) + 1) = ((n + 1 : Nat) : Int) := by rw [wrap64 (by omega) (by omega)]; omega
  rw [hw, hw2, hw3]
  exact Post.brT (decide_eq_true (by omega)) (Post.brT (decide_eq_true (by omega)) (Post.bnd (cut_gg (by omega) rfl) (Post.bnd h (Post.brT rfl (Post.pure rfl)))))
theorem ml_end {b : List Int} {p : Int} : mLoop (b, p, ((3 : Nat) : Int)) = some 3 :=
  loopW_done (Post.run (Post.brF rfl (Post.pure rfl)))

theorem ref_hit {b : List Int} {p : Nat} (hp : p < b.length) {v n : Int} (h : nLoop (b, (p : Int), 1) = some (.inr (v, n))) : ref01_Next_F b (p : Int) = some (v, n) := by
  unfold ref01_Next_F ref01_Next_T
  exact Post.run (Post.brF (decide_eq_false (by omega)) (Post.brF (decide_eq_false (by omega)) (Post.altR h (Post.pure rfl))))
theorem ref_none {b : List Int} {p : Nat} (hp : p < b.length) {m : Int} (h : nLoop (b, (p : Int), 1) = some (.inl (b, (p : Int)))) (hm : mLoop (b, (p : Int), 1) = some m) : ref01_Next_F b (p : Int) = some (65533, m) := by
  unfold ref01_Next_F ref01_Next_T
  exact Post.run (Post.brF (decide_eq_false (by omega)) (Post.brF (decide_eq_false (by omega)) (Post.altL h (Post.bnd hm (Post.pure rfl)))))

theorem ref_F {b : List Int} (hb : Bytes b) (hl : b.length ≤ 2097152) {p : Nat} (hp : p < b.length) : ref01_Next_F b (p : Int) = some ((decAt b p).1, (decAt b p).2.1) := by
  have hg : 0 ≤ gg b p 0 ∧ gg b p 0 ≤ 255 := gg_in hb (by omega)
  have hv2 := @val2_no (gg b p 0) (gg b p 1) hg.1 hg.2
  have hv3 := @val3_no (gg b p 0) (gg b p 1) (gg b p 2) hg.1 hg.2
  have hv4 := @val4_no (gg b p 0) (gg b p 1) (gg b p 2) (gg b p 3) hg.1 hg.2
  have l1 : gg b p 1 ≤ 255 → p + 1 < b.length := gg_lt
  have l2 : gg b p 2 ≤ 255 → p + 2 < b.length := gg_lt
  have l3 : gg b p 3 ≤ 255 → p + 3 < b.length := gg_lt
  have t2 : tab (1 + 1) (gg b p) = [gg b p 0, gg b p 1] := rfl
  have t3 : tab (2 + 1) (gg b p) = [gg b p 0, gg b p 1, gg b p 2] := rfl
  generalize hd : decAt b p = d
  unfold decAt dec at hd
  generalize e0 : gg b p 0 = c0 at *
  generalize e1 : gg b p 1 = c1 at *
  generalize e2 : gg b p 2 = c2 at *
  generalize e3 : gg b p 3 = c3 at *
  have k2 : tab 2 (gg b p) = [c0, c1] := by rw [← e0, ← e1]; rfl
  have k3 : tab 3 (gg b p) = [c0, c1, c2] := by rw [← e0, ← e1, ← e2]; rfl
  have k4 : tab 4 (gg b p) = [c0, c1, c2, c3] := by rw [← e0, ← e1, ← e2, ← e3]; rfl
  have k1 : tab 1 (gg b p) = [c0] := by rw [← e0]; rfl
  have none1 : 128 ≤ c0 → ref01_value_F [c0, c1] = some (-1) → ref01_value_F [c0, c1, c2] = some (-1) → ref01_value_F [c0, c1, c2, c3] = some (-1) → nLoop (b, (p : Int), 1) = some (.inl (b, (p : Int))) := fun q1 q2 q3 q4 =>
    nl_none hl (by omega) (by rw [e0]; exact val1_no q1 hg.2) (by rw [e0, e1]; exact q2) (by rw [e0, e1, e2]; exact q3) (by rw [e0, e1, e2, e3]; exact q4)
  have v1 : 128 ≤ c0 → ref01_value_F (tab 1 (gg b p)) = some (-1) := fun q => by rw [k1]; exact val1_no q hg.2
  rcases lead_cases c0 with ⟨e, hc⟩ | ⟨e, hc⟩ | ⟨e, hc⟩ | ⟨e, hc⟩ | ⟨e, hc⟩ | ⟨e, hc⟩ | ⟨e, hc⟩ | ⟨e, hc⟩ | ⟨e, hc⟩ <;> rw [e] at hd <;> dsimp only at hd
  · rw [if_neg (by decide), if_pos rfl] at hd
    subst hd
    exact ref_hit hp (nl_hit hl (n := 1) (by omega) (by omega) (by rw [k1]; exact val1_yes hg.1 hc) hg.1)
  · rw [if_pos rfl] at hd
    subst hd
    refine ref_none hp (none1 (by omega) (hv2 (by omega)) (hv3 (by omega)) (hv4 (by omega))) (ml_stop hl (n := 1) (by omega) (fun _ => ?_) (by omega))
    rw [t2]; exact beg2_out hg.1 hg.2 (by omega)
  · rw [if_neg (by decide), if_neg (by decide)] at hd
    by_cases b1 : c1 < 128 ∨ 191 < c1
    · rw [if_pos b1] at hd
      subst hd
      refine ref_none hp (none1 (by omega) (hv2 (by omega)) (hv3 (by omega)) (hv4 (by omega))) (ml_stop hl (n := 1) (by omega) (fun _ => ?_) (by omega))
      rw [t2]; exact beg2_out hg.1 hg.2 (by omega)
    · rw [if_neg b1, if_pos rfl] at hd
      subst hd
      have hlt := l1 (by omega)
      refine ref_hit hp (nl_miss hl (n := 1) (fun _ => v1 (by omega)) (by omega) (nl_hit hl (n := 2) (v := c0 % 32 * 64 + c1 % 64) (by omega) (by omega) ?_ (by omega)) (fun h => by omega) (by omega))
      rw [k2, val2_yes (by omega) (by omega)]
      exact congrArg some (by omega)
  iterate 3
    · rw [if_neg (by decide), if_neg (by decide)] at hd
      split at hd
      · rename_i b1
        subst hd
        refine ref_none hp (none1 (by omega) (hv2 (by omega)) (hv3 (by omega)) (hv4 (by omega))) (ml_stop hl (n := 1) (by omega) (fun _ => ?_) (by omega))
        rw [t2, beg2_3 (by omega)]
        exact congrArg some (decide_eq_false (by omega))
      rename_i b1
      rw [if_neg (by decide)] at hd
      have hlt := l1 (by omega)
      have g2 : ref01_begins_F (tab (1 + 1) (gg b p)) = some true := by
        rw [t2, beg2_3 (by omega)]
        exact congrArg some (decide_eq_true (by omega))
      by_cases b2 : c2 < 128 ∨ 191 < c2
      · rw [if_pos b2] at hd
        subst hd
        refine ref_none hp (none1 (by omega) (hv2 (by omega)) (hv3 (by omega)) (hv4 (by omega))) (ml_go hl (n := 1) (by omega) (by omega) g2 (ml_stop hl (n := 2) (by omega) (fun _ => ?_) (by omega)))
        rw [t3]; exact beg3_out hg.1 hg.2 (by omega)
      rw [if_neg b2, if_pos rfl] at hd
      subst hd
      have hlt2 := l2 (by omega)
      refine ref_hit hp (nl_miss hl (n := 1) (fun _ => v1 (by omega)) (by omega) (nl_miss hl (n := 2) (fun _ => by rw [k2]; exact hv2 (by omega)) (by omega) (nl_hit hl (n := 3) (v := (c0 % 16 * 64 + c1 % 64) * 64 + c2 % 64) (by omega) (by omega) ?_ (by omega)) (fun h => by omega) (by omega)) (fun h => by omega) (by omega))
      rw [k3, val3_yes (by omega) (by omega) (by omega) (by omega) (by omega)]
      exact congrArg some (by omega)
  all_goals
    rw [if_neg (by decide), if_neg (by decide)] at hd
    split at hd
    · rename_i b1
      subst hd
      refine ref_none hp (none1 (by omega) (hv2 (by omega)) (hv3 (by omega)) (hv4 (by omega))) (ml_stop hl (n := 1) (by omega) (fun _ => ?_) (by omega))
      rw [t2, beg2_4 (by omega)]
      exact congrArg some (decide_eq_false (by omega))
    rename_i b1
    rw [if_neg (by decide)] at hd
    have hlt := l1 (by omega)
    have g2 : ref01_begins_F (tab (1 + 1) (gg b p)) = some true := by
      rw [t2, beg2_4 (by omega)]
      exact congrArg some (decide_eq_true (by omega))
    by_cases b2 : c2 < 128 ∨ 191 < c2
    · rw [if_pos b2] at hd
      subst hd
      refine ref_none hp (none1 (by omega) (hv2 (by omega)) (hv3 (by omega)) (hv4 (by omega))) (ml_go hl (n := 1) (by omega) (by omega) g2 (ml_stop hl (n := 2) (by omega) (fun _ => ?_) (by omega)))
      rw [t3, beg3_4 (by omega)]
      exact congrArg some (decide_eq_false (by omega))
    rw [if_neg b2, if_neg (by decide)] at hd
    have hlt2 := l2 (by omega)
    have g3 : ref01_begins_F (tab (2 + 1) (gg b p)) = some true := by
      rw [t3, beg3_4 (by omega)]
      exact congrArg some (decide_eq_true (by omega))
    by_cases b3 : c3 < 128 ∨ 191 < c3
    · rw [if_pos b3] at hd
      subst hd
      exact ref_none hp (none1 (by omega) (hv2 (by omega)) (hv3 (by omega)) (hv4 (by omega))) (ml_go hl (n := 1) (by omega) (by omega) g2 (ml_go hl (n := 2) (by omega) (by omega) g3 ml_end))
    rw [if_neg b3] at hd
    subst hd
    have hlt3 := l3 (by omega)
    refine ref_hit hp (nl_miss hl (n := 1) (fun _ => v1 (by omega)) (by omega) (nl_miss hl (n := 2) (fun _ => by rw [k2]; exact hv2 (by omega)) (by omega) (nl_miss hl (n := 3) (fun _ => by rw [k3]; exact hv3 (by omega)) (by omega)
      (nl_hit hl (n := 4) (v := ((c0 % 8 * 64 + c1 % 64) * 64 + c2 % 64) * 64 + c3 % 64) (by omega) (by omega) ?_ (by omega)) (fun h => by omega) (by omega)) (fun h => by omega) (by omega)) (fun h => by omega) (by omega))
    rw [k4, val4_yes (by omega) (by omega) (by omega) (by omega) (by omega) (by omega)]
    exact congrArg some (by omega)

theorem next_out {b : List Int} {p : Int} (h : p < 0 ∨ b.length ≤ p) : utf_Next_F b p = some (0, 0) := by
  unfold utf_Next_F utf_Next_T
  refine Post.run (Post.bnd (b := (0, 0, false)) ?_ (Post.pure rfl))
  unfold utf_read_F utf_read_T
  refine Post.run (Post.br (fun _ => Post.pure rfl) (fun h1 => Post.brT (decide_eq_true ?_) (Post.pure rfl)))
  have h1 := of_decide_eq_false h1
  omega
theorem ref_out {b : List Int} {p : Int} (h : p < 0 ∨ b.length ≤ p) : ref01_Next_F b p = some (0, 0) := by
  unfold ref01_Next_F ref01_Next_T
  refine Post.run (Post.br (fun _ => Post.pure rfl) (fun h1 => Post.brT (decide_eq_true ?_) (Post.pure rfl)))
  have h1 := of_decide_eq_false h1
  omega

theorem utfReads_F (b : List Int) (at1 : Int) (hl : b.length ≤ 2097152) (hb : Bytes b) : law01_UtfReads_F b at1 = some true := by
  unfold law01_UtfReads_F law01_UtfReads_T
  have hboth : ∃ v n : Int, utf_Next_F b at1 = some (v, n) ∧ ref01_Next_F b at1 = some (v, n) ∧ IntKind.i64.wrap v = v := by
    by_cases h : at1 < 0 ∨ b.length ≤ at1
    · exact ⟨0, 0, next_out h, ref_out h, by decide⟩
    · obtain ⟨p, rfl⟩ := Int.eq_ofNat_of_zero_le (a := at1) (by omega)
      have hp : p < b.length := by omega
      obtain ⟨_, hsc, _⟩ := dec_ok (gg_nonneg hb p 0) (gg_nonneg hb p 1) (gg_nonneg hb p 2) (gg_nonneg hb p 3)
      have hsc' : 0 ≤ (decAt b p).1 ∧ (decAt b p).1 < 55296 ∨ 57343 < (decAt b p).1 ∧ (decAt b p).1 ≤ 1114111 := hsc
      exact ⟨_, _, next_F hb hl hp, (by rw [ref_F hb hl hp, (sz_eq hb p).1]), wrap64 (by omega) (by omega)⟩
  obtain ⟨v, n, hx, hy, hw⟩ := hboth
  refine Post.run (Post.bnd awake01 (Post.brF rfl (Post.bnd hx (Post.bnd hy (Post.brF ?_ (Post.brF ?_ (Post.bnd (decode_F hb hl) ?_)))))))
  · dsimp only; rw [hw]; simp
  · simp
  obtain ⟨hz, hat⟩ := starts_at hb b.length 0 (by omega) (by omega)
  have hlen := starts_len b b.length 0
  generalize hps : starts b b.length 0 = ps at *
  dsimp only
  have hal := ats_len ps
  have hvl := vals_len b ps
  have hpos : ∀ k, k < ps.length → ps.getD k b.length = ps.getD k 0 := fun k hk => by simp [List.getD, hk]
  have h0 : ps.getD 0 b.length = 0 := by
    by_cases h : 0 < b.length
    · obtain ⟨z1, z2⟩ := hz h
      rw [hpos 0 z2]; exact z1
    · have : ps.length = 0 := by omega
      rw [getD_len (by omega)]; omega
  have hloop : loopW (fun s => (law01_UtfReads_L9 s.1 s.2.1 s.2.2.1 s.2.2.2.1 s.2.2.2.2).run) (b, vals b ps, ats ps, 0, 0) = some (.inl (vals b ps, ats ps, (ps.length : Int))) := by
    refine count (L := fun s : List Int × List Int × List Int × Int × Int => law01_UtfReads_L9 s.1 s.2.1 s.2.2.1 s.2.2.2.1 s.2.2.2.2) ps.length (fun k => (b, vals b ps, ats ps, ((ps.getD k b.length : Nat) : Int), (k : Int))) (by rw [h0]; rfl) (fun k hk => ?_) ?_
    · dsimp only
      unfold law01_UtfReads_L9
      have hk1 : IntKind.i64.wrap ((k : Int) + 1) = ((k + 1 : Nat) : Int) := by rw [wrap64 (by omega) (by omega)]; omega
      obtain ⟨a1, a2, a3⟩ := hat k hk
      have hs := sz_eq hb (ps.getD k 0)
      have hin := sz_in hb a1
      obtain ⟨_, hsc, _⟩ := dec_ok (gg_nonneg hb (ps.getD k 0) 0) (gg_nonneg hb (ps.getD k 0) 1) (gg_nonneg hb (ps.getD k 0) 2) (gg_nonneg hb (ps.getD k 0) 3)
      have hsc' : 0 ≤ (decAt b (ps.getD k 0)).1 ∧ (decAt b (ps.getD k 0)).1 < 55296 ∨ 57343 < (decAt b (ps.getD k 0)).1 ∧ (decAt b (ps.getD k 0)).1 ≤ 1114111 := hsc
      have hnext : ps.getD (k + 1) b.length = ps.getD k 0 + sz b (ps.getD k 0) := by
        by_cases h1 : k + 1 < ps.length
        · rw [hpos _ h1]; exact a2 h1
        · rw [getD_len (by omega)]; exact a3 (by omega)
      rw [hpos k hk, hk1, hnext]
      refine Post.brT (decide_eq_true (by omega)) (Post.bnd (ref_F hb hl a1) (Post.brF (decide_eq_false (by omega)) (Post.brF (decide_eq_false (by omega)) (Post.idx 0 k rfl (by omega) ?_))))
      rw [vals_get b hk]
      refine Post.brF (by rw [wrap64 (by omega) (by omega)]; simp) (Post.idx 0 k rfl (by omega) ?_)
      rw [ats_get hk]
      dsimp only
      rw [hs.1]
      refine Post.brF (by simp) (Post.brF (decide_eq_false (by omega)) (Post.pure ?_))
      rw [wrap64 (by omega) (by omega), Int.natCast_add (ps.getD k 0)]
    · dsimp only
      unfold law01_UtfReads_L9
      rw [getD_len (Nat.le_refl _)]
      exact Post.brF (by simp) (Post.pure rfl)
  refine Post.altL hloop (Post.brT ?_ (Post.pure ?_))
  · dsimp only; rw [hvl]; simp
  · dsimp only; rw [hal]; simp

theorem utfReads_all (x : Tys.I [.sl (.int .u8), .int .i64]) (h : WfAll [.sl (.int .u8), .int .i64] x) (hb : bulkAll [.sl (.int .u8), .int .i64] x ≤ 1048576) : law01_UtfReads_F x.1 x.2.1 = some true := by
  simp only [bulkAll, bulk] at hb
  exact utfReads_F _ _ (by omega) (fun n hn => wf_u8 (h.1.2 n hn))

end Go.Proofs.Ytbldbneianlolaa
