/-
  The laws of rulers return true.
-/
import Derived.Test.YtafomgonecamlaaLawMeas
namespace Go.Proofs.Ytafomgonecamlaa
set_option linter.all false

/-- what is asked behind the cells of a part -/
theorem meas_tail {ws cs : List Int} {n : Nat} (hs : Small ws) (hw : n ≤ ws.length) {i j : Int} (hj : -9223372036854775808 ≤ j ∧ j ≤ 9223372036854775807) {c s : Int} (hc : cel ws n i j = c) (hsh : sho ws cs n i j = s) :
    Post (.bnd (Tr.run (
    .br (j == (n : Int)) (
      .pure (i, j, rul ws cs n, c, s, true)) (
      .br (decide (j ≥ 0)) (
        .br (decide (j < (n : Int))) (
          .bnd (idx ws j) fun x_9 =>
          .pure (i, j, rul ws cs n, c, s, x_9 != 0)) (
          .pure (i, j, rul ws cs n, c, s, false))) (
        .pure (i, j, rul ws cs n, c, s, false))) : Tr (Int × Int × (List Int × List Int) × Int × Int × Bool))) fun j_10 =>
            .bnd (Tr.run (
    .bnd (measure_Ruler_Cells_F j_10.2.2.1 j_10.1 j_10.2.1) fun c_11 =>
    .br (c_11 == j_10.2.2.2.1) (
      .bnd (measure_Ruler_Shown_F j_10.2.2.1 j_10.1 j_10.2.1) fun c_12 =>
      .br (c_12 == j_10.2.2.2.2.1) (
        .bnd (measure_Ruler_Whole_F j_10.2.2.1 j_10.2.1) fun c_13 =>
        .pure (c_13 == j_10.2.2.2.2.2)) (
        .pure false)) (
      .pure false) : Tr Bool)) fun j_14 =>
            (.pure j_14 : Tr Bool)) (· = true) := by
  subst hc hsh
  refine Post.bnd (b := (i, j, rul ws cs n, cel ws n i j, sho ws cs n i j, who ws n j)) (Post.run ?_) (Post.bnd (b := true) (Post.run ?_) (Post.pure rfl))
  · unfold who
    refine Post.br (fun h => Post.pure (by rw [h]; rfl)) (fun h => ?_)
    rw [h]
    refine Post.br (fun h2 => Post.br (fun h3 => ?_) (fun h3 => Post.pure ?_)) (fun h2 => Post.pure ?_)
    · simp only [Bool.or_eq_true, Bool.and_eq_true, beq_iff_eq, bne_iff_ne, decide_eq_true_eq, ne_eq, Bool.not_eq_true', beq_eq_false_iff_ne, bne_eq_false_iff_eq, decide_eq_false_iff_not, Decidable.not_not, Bool.or_eq_false_iff, Bool.and_eq_false_iff, Bool.not_eq_false'] at h2 h3
      refine Post.idx 0 j.toNat (by omega) (by omega) (Post.pure ?_)
      rw [decide_eq_true (show 0 ≤ j ∧ j < (n : Int) by omega)]
      rfl
    · simp only [Bool.or_eq_true, Bool.and_eq_true, beq_iff_eq, bne_iff_ne, decide_eq_true_eq, ne_eq, Bool.not_eq_true', beq_eq_false_iff_ne, bne_eq_false_iff_eq, decide_eq_false_iff_not, Decidable.not_not, Bool.or_eq_false_iff, Bool.and_eq_false_iff, Bool.not_eq_false'] at h2 h3
      rw [decide_eq_false (show ¬ (0 ≤ j ∧ j < (n : Int)) by omega)]
      rfl
    · simp only [Bool.or_eq_true, Bool.and_eq_true, beq_iff_eq, bne_iff_ne, decide_eq_true_eq, ne_eq, Bool.not_eq_true', beq_eq_false_iff_ne, bne_eq_false_iff_eq, decide_eq_false_iff_not, Decidable.not_not, Bool.or_eq_false_iff, Bool.and_eq_false_iff, Bool.not_eq_false'] at h2
      rw [decide_eq_false (show ¬ (0 ≤ j ∧ j < (n : Int)) by omega)]
      rfl
  · dsimp only
    exact Post.bnd (cells_F hs hw _ _) (Post.brT (by simp) (Post.bnd (shown_F hs hw _ _) (Post.brT (by simp) (Post.bnd (whole_F hs hw _ hj) (Post.pure (by simp))))))

theorem measureCells_F (wn ns : List Int) (i j : Int) (h1 : wn.length ≤ 1048576) (h2 : ns.length ≤ 1048576) (h8 : ∀ n ∈ wn, 0 ≤ n ∧ n ≤ 255) (hj : -9223372036854775808 ≤ j ∧ j ≤ 9223372036854775807) : law22_MeasureCells_F wn ns i j = some true := by
  unfold law22_MeasureCells_F law22_MeasureCells_T
  obtain ⟨ws, hws, hs, hwl⟩ := widths_F wn (by omega) h8
  obtain ⟨cs, hcs, hcl⟩ := classes_F ns (by omega)
  obtain ⟨n, hn, hnw, hnc, _⟩ := min_nat ws cs
  refine Post.run (Post.bnd awake22 (Post.brF (by simp) (Post.bnd hws (Post.bnd hcs (Post.bnd (of_F ws cs n hnw hnc hn (by omega)) (Post.bnd (count_F ws cs n) ?_))))))
  rw [← hn]
  refine Post.brF (by simp) (Post.br (fun a => Post.br (fun b => Post.br (fun c => ?_) (fun c => ?_)) (fun b => ?_)) (fun a => ?_))
  · simp only [Bool.or_eq_true, Bool.and_eq_true, beq_iff_eq, bne_iff_ne, decide_eq_true_eq, ne_eq, Bool.not_eq_true', beq_eq_false_iff_ne, bne_eq_false_iff_eq, decide_eq_false_iff_not, Decidable.not_not, Bool.or_eq_false_iff, Bool.and_eq_false_iff, Bool.not_eq_false'] at a b c
    obtain ⟨x, rfl⟩ : ∃ x : Nat, i = x := ⟨i.toNat, by omega⟩
    obtain ⟨y, rfl⟩ : ∃ y : Nat, j = y := ⟨j.toNat, by omega⟩
    have hx : x ≤ y := by omega
    have hy : y ≤ n := by omega
    refine Post.bnd (count (y - x) (fun k => ((x : Int), (y : Int), ws, cs, (n : Int), rul ws cs n, pre ws (x + k) - pre ws x, pre ws (max x (sol cs (x + k)).toNat) - pre ws x, ((x + k : Nat) : Int))) (r := ((x : Int), (y : Int), ws, (n : Int), rul ws cs n, pre ws y - pre ws x, pre ws (max x (sol cs y).toNat) - pre ws x)) ?_ (fun k hk => ?_) ?_) ?_
    · have := sol_le cs x
      simp only [Nat.add_zero, Int.sub_self]
      rw [show max x (sol cs x).toNat = x by omega, Int.sub_self]
    · dsimp only
      unfold law22_MeasureCells_L11
      have hk' : x + k < y := by omega
      have e0 := pre_small hs (x + k) (by omega)
      have e1 := pre_small hs x (by omega)
      have e2 := hs.2 (x + k)
      have e3 := hs.1
      have e4 := pre_next hs (k := x + k) (by omega)
      have e5 : IntKind.i64.wrap (pre ws (x + k) - pre ws x + ws.getD (x + k) 0) = pre ws (x + k + 1) - pre ws x := by rw [wrap64 (by omega) (by omega)]; omega
      refine Post.brT (decide_eq_true (by omega)) (Post.idx 0 (x + k) rfl (by omega) (Post.idx 0 (x + k) rfl (by omega) (Post.br (fun h => Post.pure ?_) (fun h => Post.pure ?_))))
      · rw [e5, wrap_succ (by omega), show x + (k + 1) = x + k + 1 by omega]
        rw [show sol cs (x + k + 1) = ((x + k : Nat) : Int) + 1 by rw [sol_succ, if_pos h]]
        rw [show max x (((x + k : Nat) : Int) + 1).toNat = x + k + 1 by omega]
      · rw [e5, wrap_succ (by omega), show x + (k + 1) = x + k + 1 by omega]
        rw [show sol cs (x + k + 1) = sol cs (x + k) by rw [sol_succ, if_neg (by rw [h]; simp)]]
    · dsimp only
      unfold law22_MeasureCells_L11
      rw [show x + (y - x) = y by omega]
      exact Post.brF (decide_eq_false (by omega)) (Post.pure rfl)
    · exact meas_tail hs hnw hj (cel_at hx hy) (sho_at hx hy)
  · simp only [Bool.or_eq_true, Bool.and_eq_true, beq_iff_eq, bne_iff_ne, decide_eq_true_eq, ne_eq, Bool.not_eq_true', beq_eq_false_iff_ne, bne_eq_false_iff_eq, decide_eq_false_iff_not, Decidable.not_not, Bool.or_eq_false_iff, Bool.and_eq_false_iff, Bool.not_eq_false'] at a b c
    exact meas_tail hs hnw hj (if_neg (by omega)) (if_neg (by omega))
  · simp only [Bool.or_eq_true, Bool.and_eq_true, beq_iff_eq, bne_iff_ne, decide_eq_true_eq, ne_eq, Bool.not_eq_true', beq_eq_false_iff_ne, bne_eq_false_iff_eq, decide_eq_false_iff_not, Decidable.not_not, Bool.or_eq_false_iff, Bool.and_eq_false_iff, Bool.not_eq_false'] at a b
    exact meas_tail hs hnw hj (if_neg (by omega)) (if_neg (by omega))
  · simp only [Bool.or_eq_true, Bool.and_eq_true, beq_iff_eq, bne_iff_ne, decide_eq_true_eq, ne_eq, Bool.not_eq_true', beq_eq_false_iff_ne, bne_eq_false_iff_eq, decide_eq_false_iff_not, Decidable.not_not, Bool.or_eq_false_iff, Bool.and_eq_false_iff, Bool.not_eq_false'] at a
    exact meas_tail hs hnw hj (if_neg (by omega)) (if_neg (by omega))

theorem tmod_lt {a m : Int} (ha : 0 ≤ a) (hm : 0 < m) : 0 ≤ a.tmod m ∧ a.tmod m < m := by
  rw [Int.tmod_eq_emod_of_nonneg ha]
  exact ⟨Int.emod_nonneg _ (by omega), Int.emod_lt_of_pos _ hm⟩

theorem measureParts_F (wn ns : List Int) (a b c : Int) (h1 : wn.length ≤ 1048576) (h2 : ns.length ≤ 1048576) (h8 : ∀ n ∈ wn, 0 ≤ n ∧ n ≤ 255) (ha : 0 ≤ a ∧ a ≤ 255) (hb : 0 ≤ b ∧ b ≤ 255) (hc : 0 ≤ c ∧ c ≤ 255) : law22_MeasureParts_F wn ns a b c = some true := by
  unfold law22_MeasureParts_F law22_MeasureParts_T
  obtain ⟨ws, hws, hs, hwl⟩ := widths_F wn (by omega) h8
  obtain ⟨cs, hcs, hcl⟩ := classes_F ns (by omega)
  obtain ⟨n, hn, hnw, hnc, _⟩ := min_nat ws cs
  refine Post.run (Post.bnd awake22 (Post.brF (by simp) (Post.bnd hws (Post.bnd hcs (Post.bnd (of_F ws cs n hnw hnc hn (by omega)) (Post.bnd (count_F ws cs n) ?_))))))
  rw [wrap_succ (k := n) (by omega), wrap64 (n := a) (by omega) (by omega), wrap64 (n := b) (by omega) (by omega), wrap64 (n := c) (by omega) (by omega)]
  have hi := tmod_lt (a := a) (m := ((n + 1 : Nat) : Int)) ha.1 (by omega)
  generalize a.tmod ((n + 1 : Nat) : Int) = i at hi
  obtain ⟨i, rfl⟩ : ∃ k : Nat, i = k := ⟨i.toNat, by omega⟩
  rw [wrap64 (n := ((n + 1 : Nat) : Int) - (i : Int)) (by omega) (by omega)]
  have hj := tmod_lt (a := b) (m := ((n + 1 : Nat) : Int) - (i : Int)) hb.1 (by omega)
  generalize b.tmod (((n + 1 : Nat) : Int) - (i : Int)) = j0 at hj
  rw [wrap64 (n := (i : Int) + j0) (by omega) (by omega)]
  obtain ⟨j, hj0⟩ : ∃ k : Nat, (i : Int) + j0 = k := ⟨((i : Int) + j0).toNat, by omega⟩
  rw [hj0]
  rw [wrap64 (n := ((n + 1 : Nat) : Int) - (j : Int)) (by omega) (by omega)]
  have hk := tmod_lt (a := c) (m := ((n + 1 : Nat) : Int) - (j : Int)) hc.1 (by omega)
  generalize c.tmod (((n + 1 : Nat) : Int) - (j : Int)) = k0 at hk
  rw [wrap64 (n := (j : Int) + k0) (by omega) (by omega)]
  obtain ⟨k, hk0⟩ : ∃ m : Nat, (j : Int) + k0 = m := ⟨((j : Int) + k0).toNat, by omega⟩
  rw [hk0]
  have hij : i ≤ j := by omega
  have hjk : j ≤ k := by omega
  have hkn : k ≤ n := by omega
  have p1 := pre_small hs i (by omega)
  have p2 := pre_small hs j (by omega)
  have p3 := pre_small hs k (by omega)
  have p4 := hs.1
  have s1 := sol_le cs j
  have s2 := sol_le cs k
  have s3 := sol_mono cs hjk
  have s4 := sol_le cs i
  refine Post.brT (by simp; omega) (Post.brT (by simp; omega) (Post.brT (by simp; omega) (Post.bnd (cells_F hs hnw _ _) (Post.bnd (cells_F hs hnw _ _) (Post.bnd (cells_F hs hnw _ _) ?_)))))
  rw [cel_at hij (by omega), cel_at hjk hkn, cel_at (Nat.le_trans hij hjk) hkn]
  refine Post.brT (by rw [wrap64 (by omega) (by omega)]; simp; omega) (Post.bnd (shown_F hs hnw _ _) (Post.bnd (cells_F hs hnw _ _) ?_))
  rw [cel_at hij (by omega), sho_at hij (by omega)]
  refine Post.brT (decide_eq_true ?_) (Post.bnd (shown_F hs hnw _ _) (Post.bnd (shown_F hs hnw _ _) ?_))
  · have := pre_mono hs (i := max i (sol cs j).toNat) (j := j) (by omega) (by omega)
    omega
  · rw [sho_at hij (by omega), sho_at (Nat.le_trans hij hjk) hkn]
    refine Post.brT (decide_eq_true ?_) (Post.bnd (shown_F hs hnw _ _) (Post.pure ?_))
    · have := pre_mono hs (i := max i (sol cs j).toNat) (j := max i (sol cs k).toNat) (by omega) (by omega)
      omega
    · rw [sho_at (Nat.le_refl _) (by omega), show max i (sol cs i).toNat = i by omega, Int.sub_self]
      rfl

/-- a text and some spaces behind it -/
def wMore (ws : List Int) (n k : Nat) : List Int := ws.take n ++ tab k (fun i => 1 + (i : Int).tmod 2)
def cMore (cs : List Int) (n k : Nat) : List Int := cs.take n ++ tab k (fun _ => 9)
theorem measureSpaces_F (wn ns : List Int) (m : Int) (h1 : wn.length ≤ 1048576) (h2 : ns.length ≤ 1048576) (h8 : ∀ n ∈ wn, 0 ≤ n ∧ n ≤ 255) (hm : 0 ≤ m ∧ m ≤ 255) : law22_MeasureSpaces_F wn ns m = some true := by
  unfold law22_MeasureSpaces_F law22_MeasureSpaces_T
  obtain ⟨ws, hws, hs, hwl⟩ := widths_F wn (by omega) h8
  obtain ⟨cs, hcs, hcl⟩ := classes_F ns (by omega)
  obtain ⟨n, hn, hnw, hnc, _⟩ := min_nat ws cs
  refine Post.run (Post.bnd awake22 (Post.brF (by simp) (Post.bnd hws (Post.bnd hcs ?_))))
  rw [← hn]
  have tw : (ws.take n).length = n := by rw [List.length_take]; omega
  have tc : (cs.take n).length = n := by rw [List.length_take]; omega
  have hs1 : Small (ws.take n) := by
    refine ⟨by omega, fun k => ?_⟩
    by_cases hk : k < n
    · rw [take_getD 0 hk]; exact hs.2 k
    · rw [getD_len (by omega)]; omega
  refine Post.bnd (cut_take rfl hnw) (Post.bnd (cut_take rfl hnc) (Post.bnd (of_F (ws.take n) (cs.take n) n (by omega) (by omega) (by rw [tw, tc]; split <;> omega) (by omega)) ?_))
  have hm9 := tmod_lt (a := m) (m := 9) hm.1 (by omega)
  obtain ⟨q, hq⟩ : ∃ q : Nat, IntKind.i64.wrap (m.tmod 9) = q := ⟨(m.tmod 9).toNat, by rw [wrap64 (by omega) (by omega)]; omega⟩
  have hq9 : q < 9 := by rw [wrap64 (by omega) (by omega)] at hq; omega
  refine Post.bnd (count q (fun k => (m, wMore ws n k, cMore cs n k, (n : Int), rul (ws.take n) (cs.take n) n, (k : Int))) (r := (wMore ws n q, cMore cs n q, (n : Int), rul (ws.take n) (cs.take n) n)) ?_ (fun k hk => ?_) ?_) ?_
  · simp [wMore, cMore, tab_zero]
  · dsimp only
    unfold law22_MeasureSpaces_L8
    have h2 := tmod_lt (a := (k : Int)) (m := 2) (by omega) (by omega)
    refine Post.brT (decide_eq_true (by omega)) (Post.bnd (app_eq (by simp only [wMore, List.length_append, tab_len, tw, List.length_cons, List.length_nil]; omega)) (Post.bnd (app_eq (by simp only [cMore, List.length_append, tab_len, tc, List.length_cons, List.length_nil]; omega)) (Post.pure ?_)))
    rw [wrap_succ (by omega), wrap64 (n := 1 + (k : Int).tmod 2) (by omega) (by omega)]
    unfold wMore cMore
    rw [← tab_succ, ← tab_succ, List.append_assoc, List.append_assoc]
  · dsimp only
    unfold law22_MeasureSpaces_L8
    exact Post.brF (decide_eq_false (by omega)) (Post.pure rfl)
  · dsimp only
    have lw : (wMore ws n q).length = n + q := by simp only [wMore, List.length_append, tab_len, tw]
    have lc : (cMore cs n q).length = n + q := by simp only [cMore, List.length_append, tab_len, tc]
    have gw : ∀ k, k < n → (wMore ws n q).getD k 0 = (ws.take n).getD k 0 := fun k hk => by simp [wMore, List.getD, List.getElem?_append_left (show k < (ws.take n).length by omega)]
    have gc : ∀ k, k < n → (cMore cs n q).getD k 0 = (cs.take n).getD k 0 := fun k hk => by simp [cMore, List.getD, List.getElem?_append_left (show k < (cs.take n).length by omega)]
    have gc2 : ∀ k, k < q → (cMore cs n q).getD (n + k) 0 = 9 := fun k hk => by
      simp only [cMore, List.getD, List.getElem?_append_right (show (cs.take n).length ≤ n + k by omega), tc]
      rw [show n + k - n = k by omega, tab_get _ hk]
      rfl
    have hs2 : Small (wMore ws n q) := by
      refine ⟨by omega, fun k => ?_⟩
      by_cases hk : k < n
      · rw [gw k hk]; exact hs1.2 k
      · by_cases hk2 : k < n + q
        · have : (wMore ws n q).getD k 0 = 1 + ((k - n : Nat) : Int).tmod 2 := by
            simp only [wMore, List.getD, List.getElem?_append_right (show (ws.take n).length ≤ k by omega), tw]
            rw [tab_get _ (by omega)]
            rfl
          have h2 := tmod_lt (a := ((k - n : Nat) : Int)) (m := 2) (by omega) (by omega)
          omega
        · rw [getD_len (by omega)]; omega
    have epre : pre (wMore ws n q) n = pre (ws.take n) n := pre_congr gw
    have epre2 : ∀ k, k ≤ n → pre (wMore ws n q) k = pre (ws.take n) k := fun k hk => pre_congr fun i hi => gw i (by omega)
    have esol : ∀ k, k ≤ q → sol (cMore cs n q) (n + k) = sol (cs.take n) n := by
      intro k
      induction k with
      | zero => intro _; exact sol_congr gc
      | succ k ih =>
        intro hk
        rw [show n + (k + 1) = n + k + 1 by omega, sol_succ, gc2 k (by omega), if_neg (by simp)]
        exact ih (by omega)
    have hsl := sol_le (cs.take n) n
    refine Post.bnd (of_F (wMore ws n q) (cMore cs n q) (n + q) (by omega) (by omega) (by rw [lw, lc]; split <;> omega) (by omega)) (Post.bnd (count_F _ _ _) (Post.brT (by simp [lc]) ?_))
    rw [lc]
    refine Post.bnd (shown_F hs2 (by omega) _ _) (Post.bnd (shown_F hs1 (by omega) _ _) (Post.brT ?_ (Post.bnd (cells_F hs2 (by omega) _ _) (Post.bnd (cells_F hs1 (by omega) _ _) (Post.brT ?_ (Post.bnd (whole_F hs1 (by omega) _ (by omega)) (Post.brT ?_ (Post.bnd (whole_F hs2 (by omega) _ (by omega)) (Post.pure ?_)))))))))
    · rw [show (0 : Int) = ((0 : Nat) : Int) from rfl, sho_at (by omega) (by omega), sho_at (by omega) (by omega), esol q (by omega), epre2 _ (by omega)]
      simp [pre_zero]
    · rw [show (0 : Int) = ((0 : Nat) : Int) from rfl, cel_at (by omega) (by omega), cel_at (by omega) (by omega), epre]
      simp [pre_zero]
    · simp [who]
    · simp [who]

theorem measureCells_all (x : Tys.I [.sl (.int .u8), .sl (.int .u8), .int .i64, .int .i64]) (h : WfAll [.sl (.int .u8), .sl (.int .u8), .int .i64, .int .i64] x) (hb : bulkAll [.sl (.int .u8), .sl (.int .u8), .int .i64, .int .i64] x ≤ 1048576) : law22_MeasureCells_F x.1 x.2.1 x.2.2.1 x.2.2.2.1 = some true := by
  simp only [bulkAll, bulk] at hb
  exact measureCells_F _ _ _ _ (by omega) (by omega) (fun n hn => wf_u8 (h.1.2 n hn)) (wf_i64 h.2.2.2.1)
theorem measureParts_all (x : Tys.I [.sl (.int .u8), .sl (.int .u8), .int .u8, .int .u8, .int .u8]) (h : WfAll [.sl (.int .u8), .sl (.int .u8), .int .u8, .int .u8, .int .u8] x) (hb : bulkAll [.sl (.int .u8), .sl (.int .u8), .int .u8, .int .u8, .int .u8] x ≤ 1048576) : law22_MeasureParts_F x.1 x.2.1 x.2.2.1 x.2.2.2.1 x.2.2.2.2.1 = some true := by
  simp only [bulkAll, bulk] at hb
  exact measureParts_F _ _ _ _ _ (by omega) (by omega) (fun n hn => wf_u8 (h.1.2 n hn)) (wf_u8 h.2.2.1) (wf_u8 h.2.2.2.1) (wf_u8 h.2.2.2.2.1)
theorem measureSpaces_all (x : Tys.I [.sl (.int .u8), .sl (.int .u8), .int .u8]) (h : WfAll [.sl (.int .u8), .sl (.int .u8), .int .u8] x) (hb : bulkAll [.sl (.int .u8), .sl (.int .u8), .int .u8] x ≤ 1048576) : law22_MeasureSpaces_F x.1 x.2.1 x.2.2.1 = some true := by
  simp only [bulkAll, bulk] at hb
  exact measureSpaces_F _ _ _ (by omega) (by omega) (fun n hn => wf_u8 (h.1.2 n hn)) (wf_u8 h.2.2.1)

end Go.Proofs.Ytafomgonecamlaa
