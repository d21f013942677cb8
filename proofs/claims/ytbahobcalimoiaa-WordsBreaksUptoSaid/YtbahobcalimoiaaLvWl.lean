/-
  Words: the laws return true.
-/
import Derived.Test.YtbahobcalimoiaaLvWx
namespace Go.Proofs.Ytbahobcalimoiaa
set_option linter.all false

theorem wkinds_F (rs : List Int) (hn : rs.length ≤ 8388607) {B : List Bool} {l : List (Int × Int)} (hl : cluster_Of_F rs = some l) (hc : Chain B 0 l rs.length) : words_Kinds_F rs = some (ksOf rs l) := by
  unfold words_Kinds_F words_Kinds_T
  exact Post.run (Post.bnd hl (Post.bnd (kinds_F rs hn hc) (Post.pure rfl)))
theorem wordsKinds_F (rs : List Int) (hn : rs.length ≤ 1048576) (w : ∀ x ∈ rs, -2147483648 ≤ x ∧ x ≤ 2147483647) : law32_WordsKinds_F rs = some true := by
  obtain ⟨l, hl, hc⟩ := of_F rs (by omega)
  have hll := hc.len
  have hkl := ksOf_len rs l
  unfold law32_WordsKinds_F law32_WordsKinds_T
  refine Post.run (Post.bnd awake32 (Post.brF rfl (Post.bnd (wkinds_F rs (by omega) hl hc) (Post.bnd hl (Post.brF (by rw [hkl]; simp) (Post.altL (b := ()) (count (L := fun s : List Int × List Int × List (Int × Int) × Int × Int => law32_WordsKinds_L8 s.1 s.2.1 s.2.2.1 s.2.2.2.1 s.2.2.2.2) l.length
    (fun k => (rs, ksOf rs l, l, (l.length : Int), (k : Int))) rfl (fun k hk => ?_) ?_) (Post.pure rfl)))))))
  · dsimp only
    unfold law32_WordsKinds_L8
    obtain ⟨i, j, e1, g1, g2, g3, _⟩ := chain_at hc k hk
    have e2 : (ksOf rs l).getD k 0 = kv (rs.getD i 0) (lc (rs.getD i 0)) := by
      unfold ksOf
      rw [tab_getD _ _ hk, e1]
      rfl
    have hm := w (rs.getD i 0) (by
      rw [show rs.getD i 0 = rs[i]'(by omega) by simp [List.getD, show i < rs.length by omega]]
      exact List.getElem_mem _)
    refine Post.brT (by rw [decide_eq_true_eq]; omega) (Post.idx (0, 0) k rfl hk (Post.idx 0 k rfl (by omega) ?_))
    rw [e1, e2]
    refine Post.bnd (one_idx _) (Post.idx 0 i rfl (by omega) (Post.bnd (lkind_F _ hm) (Post.brF (by simp) (Post.pure ?_))))
    rw [wrap_succ (by omega)]
  · dsimp only
    unfold law32_WordsKinds_L8
    exact Post.brF (by rw [decide_eq_false_iff_not]; omega) (Post.pure rfl)

theorem between_F (ks : List Int) (i : Nat) (hi : i < ks.length) (hn : ks.length ≤ 8388607) : law32_joined_1_F (i : Int) ks = some (decide (0 < i) && decide (i + 1 < ks.length) && ks.getD i 0 == 3 && ks.getD (i - 1) 0 == 1 && ks.getD (i + 1) 0 == 1) := by
  unfold law32_joined_1_F law32_joined_1_T
  rw [wrap_succ (by omega)]
  refine Post.run (Post.br (fun h => ?_) (fun h => Post.pure ?_))
  · rw [decide_eq_true_eq] at h
    have h : 0 < i := by omega
    have w1 : IntKind.i64.wrap ((i : Int) - 1) = ((i - 1 : Nat) : Int) := by rw [wrap64 (by omega) (by omega)]; omega
    rw [decide_eq_true h]
    refine Post.br (fun g => ?_) (fun g => Post.pure ?_)
    · rw [decide_eq_true_eq] at g
      have g : i + 1 < ks.length := by omega
      rw [decide_eq_true g, w1]
      refine Post.idx 0 i rfl hi (Post.br (fun f => Post.idx 0 (i - 1) rfl (by omega) (Post.br (fun f2 => Post.idx 0 (i + 1) rfl g (Post.pure ?_)) (fun f2 => Post.pure ?_))) (fun f => Post.pure ?_))
      · rw [f, f2]; simp
      · rw [f, f2]; simp
      · rw [f]; simp
    · rw [decide_eq_false_iff_not] at g
      rw [decide_eq_false (by omega)]
      simp
  · rw [decide_eq_false_iff_not] at h
    rw [decide_eq_false (by omega)]
    simp
theorem ljoined_F (ks : List Int) (k : Nat) (h0 : 0 < k) (hk : k < ks.length) (hn : ks.length ≤ 8388607) : law32_joined_F ks (k : Int) = some (jo ks k) := by
  have w1 : IntKind.i64.wrap ((k : Int) - 1) = ((k - 1 : Nat) : Int) := by rw [wrap64 (by omega) (by omega)]; omega
  have i1 : idx ks ((k - 1 : Nat) : Int) = some (ks.getD (k - 1) 0) := idx_getD 0 rfl (by omega)
  have i2 : idx ks (k : Int) = some (ks.getD k 0) := idx_getD 0 rfl hk
  have b1 := between_F ks k hk hn
  have b2 := between_F ks (k - 1) (by omega) hn
  unfold law32_joined_F law32_joined_T jo
  rw [w1]
  simp only [Tr.run_br, Tr.run_bnd, Tr.run_pure, i1, i2, b1, b2, Option.bind_some]
  rw [show k - 1 + 1 = k by omega, show k - 1 - 1 = k - 2 by omega, decide_eq_true h0, decide_eq_true hk]
  have d2 : decide (0 < k - 1) = decide (2 ≤ k) := by
    by_cases h : 2 ≤ k
    · rw [decide_eq_true h, decide_eq_true (by omega)]
    · rw [decide_eq_false h, decide_eq_false (by omega)]
  rw [d2]
  generalize decide (2 ≤ k) = E
  generalize decide (k + 1 < ks.length) = D
  generalize ks.getD (k - 1) 0 = a
  generalize ks.getD k 0 = c
  generalize (ks.getD (k + 1) 0 == 1) = d
  generalize (ks.getD (k - 2) 0 == 1) = e
  clear i1 i2 b1 b2 w1 d2 hk h0
  have ha : a = 1 ∨ a = 2 ∨ a = 3 ∨ (a ≠ 1 ∧ a ≠ 2 ∧ a ≠ 3) := by omega
  have hc : c = 1 ∨ c = 2 ∨ c = 3 ∨ (c ≠ 1 ∧ c ≠ 2 ∧ c ≠ 3) := by omega
  rcases ha with rfl | rfl | rfl | ⟨a1, a2, a3⟩ <;> rcases hc with rfl | rfl | rfl | ⟨c1, c2, c3⟩ <;> cases D <;> cases E <;> cases d <;> cases e <;> simp [*]

/-- the law's boundaries ahead of the last step -/
def lw (n : Nat) (ks : List Int) (l : List (Int × Int)) (k : Nat) : List Bool := if k = 0 then (List.replicate (n + 1) false).set n true else wb n ks l k
theorem wordsBreaks_F (rs : List Int) (hn : rs.length ≤ 1048576) : law32_WordsBreaks_F rs = some true := by
  obtain ⟨l, z, hl, hc, hb, _, _⟩ := words_F rs (by omega)
  have hll := hc.len
  have hkl := ksOf_len rs l
  have hk := wkinds_F rs (by omega) hl hc
  obtain ⟨h0, _, _⟩ := wb_ends (ks := ksOf rs l) hc l.length (Nat.le_refl _)
  have hwl := wb_len rs.length (ksOf rs l) l l.length
  unfold law32_WordsBreaks_F law32_WordsBreaks_T
  rw [wrap_succ (by omega)]
  refine Post.run (Post.bnd awake32 (Post.brF rfl (Post.bnd hb (Post.bnd (mk_eq (k := rs.length + 1) rfl (by omega)) (Post.idx false rs.length rfl (by simp) (Post.bnd hk (Post.bnd hl (Post.bnd (count (L := fun s : List Bool × List Bool × List Int × List (Int × Int) × Int × Int => law32_WordsBreaks_L8 s.1 s.2.1 s.2.2.1 s.2.2.2.1 s.2.2.2.2.1 s.2.2.2.2.2) l.length
    (fun k => (wb rs.length (ksOf rs l) l l.length, lw rs.length (ksOf rs l) l k, ksOf rs l, l, (l.length : Int), (k : Int))) (r := (wb rs.length (ksOf rs l) l l.length, lw rs.length (ksOf rs l) l l.length)) rfl (fun k hk => ?_) ?_) ?_))))))))
  · dsimp only
    unfold law32_WordsBreaks_L8
    obtain ⟨i, j, e1, g1, g2, g3, _, _, g6, _⟩ := chain_at hc k hk
    refine Post.brT (by rw [decide_eq_true_eq]; omega) (Post.idx (0, 0) k rfl hk ?_)
    rw [e1]
    refine Post.bnd (one_idx _) ?_
    by_cases e : k = 0
    · subst e
      have g6 := g6 rfl
      subst g6
      refine Post.brT rfl (Post.idx false 0 rfl (by simp [lw]) (Post.pure ?_))
      have : (lw rs.length (ksOf rs l) l 0).set 0 true = lw rs.length (ksOf rs l) l (0 + 1) := by
        show ((List.replicate (rs.length + 1) false).set rs.length true).set 0 true = wb0 rs.length
        unfold wb0
        rw [List.set_comm _ _ (by omega)]
      rw [wrap_succ (by omega)]
      exact congrArg Lap.next (Prod.ext rfl (Prod.ext this rfl))
    · refine Post.brF (by rw [beq_eq_false_iff_ne]; omega) (Post.bnd (ljoined_F _ k (by omega) (by omega) (by omega)) ?_)
      have el : lw rs.length (ksOf rs l) l k = wb rs.length (ksOf rs l) l k := if_neg e
      have el2 : lw rs.length (ksOf rs l) l (k + 1) = wb rs.length (ksOf rs l) l (k + 1) := if_neg (by omega)
      rw [el, el2, wb_succ, if_neg e, e1]
      refine Post.idx false i rfl (by rw [wb_len]; omega) (Post.pure ?_)
      rw [wrap_succ (by omega)]
  · dsimp only
    unfold law32_WordsBreaks_L8
    exact Post.brF (by rw [decide_eq_false_iff_not]; omega) (Post.pure rfl)
  · dsimp only
    have hlw : (lw rs.length (ksOf rs l) l l.length).length = rs.length + 1 := by
      unfold lw
      split
      · simp
      · exact hwl
    have hs : (lw rs.length (ksOf rs l) l l.length).set (Int.toNat 0) true = wb rs.length (ksOf rs l) l l.length := by
      show (lw rs.length (ksOf rs l) l l.length).set 0 true = _
      by_cases e : l = []
      · subst e
        have hn0 : 0 = rs.length := hc
        rw [← hn0]
        rfl
      · have e2 : l.length ≠ 0 := fun h => e (List.length_eq_zero_iff.1 h)
        rw [show lw rs.length (ksOf rs l) l l.length = wb rs.length (ksOf rs l) l l.length from if_neg e2]
        refine List.ext_getElem (by rw [List.length_set]) fun i h1 h2 => ?_
        rw [List.getElem_set]
        split
        · rename_i e3
          subst e3
          have : (wb rs.length (ksOf rs l) l l.length).getD 0 false = (wb rs.length (ksOf rs l) l l.length)[0] := by simp [List.getD, h2]
          rw [← this, h0]
        · rfl
    refine Post.brF (by rw [hwl, hlw]; simp) (Post.idx false 0 rfl (by omega) ?_)
    rw [hs]
    generalize wb rs.length (ksOf rs l) l l.length = W at *
    refine Post.altL (b := ()) (count (L := fun s : List Bool × List Bool × Int × Int => law32_WordsBreaks_L16 s.1 s.2.1 s.2.2.1 s.2.2.2) W.length (fun k => (W, W, (W.length : Int), (k : Int))) rfl (fun k hk => ?_) ?_) (Post.pure rfl)
    · dsimp only
      unfold law32_WordsBreaks_L16
      refine Post.brT (by rw [decide_eq_true_eq]; omega) (Post.idx false k rfl hk (Post.idx false k rfl hk (Post.brF (by simp) (Post.pure ?_))))
      rw [wrap_succ (by omega)]
    · dsimp only
      unfold law32_WordsBreaks_L16
      exact Post.brF (by rw [decide_eq_false_iff_not]; omega) (Post.pure rfl)

theorem spans_loop (rs : List Int) (hn : rs.length ≤ 1048576) {B W : List Bool} (hB : B.length = rs.length + 1) (hW : ∀ i, i ≤ rs.length → W.getD i false = true → B.getD i false = true) (z : List (Int × Int)) (hz : z.length ≤ 1048576) : ∀ (m k a : Nat), z.length = k + m → B.getD a false = true → Chain W a (z.drop k) rs.length →
    loopW (fun s : List Int × List Bool × Int × List (Int × Int) × Int × Int => (law32_WordsSpans_L6 s.1 s.2.1 s.2.2.1 s.2.2.2.1 s.2.2.2.2.1 s.2.2.2.2.2).run) (rs, B, (a : Int), z, (z.length : Int), (k : Int)) = some (.inl (rs, (rs.length : Int)))
  | 0, k, a, hm, ha, hc => by
    rw [List.drop_of_length_le (by omega)] at hc
    have hc : a = rs.length := hc
    subst hc
    refine loopW_done (Post.run ?_)
    dsimp only
    unfold law32_WordsSpans_L6
    exact Post.brF (by rw [decide_eq_false_iff_not]; omega) (Post.pure rfl)
  | m + 1, k, a, hm, ha, hc => by
    have hk : k < z.length := by omega
    rw [List.drop_eq_getElem_cons hk] at hc
    obtain ⟨e, d, e2, g1, g2, g3, _, g5⟩ := hc
    have hle := g5.le
    have hd := hW d hle g3
    refine loopW_next (Post.run ?_) (spans_loop rs hn hB hW z hz m (k + 1) d (by omega) hd g5)
    dsimp only
    unfold law32_WordsSpans_L6
    rw [wrap_succ (by omega), wrap_succ (by omega)]
    have ep : z[k] = ((a : Int), (d : Int)) := Prod.ext e e2
    refine Post.brT (by rw [decide_eq_true_eq]; omega) (Post.bnd (idx_get (k := k) rfl hk) ?_)
    rw [ep]
    refine Post.bnd (one_idx _) (Post.brF (by simp) (Post.bnd (one_idx _) (Post.brF (by rw [decide_eq_false_iff_not]; omega) (Post.bnd (one_idx _) (Post.brF (by rw [decide_eq_false_iff_not]; omega) (Post.brF (by rw [hB]; simp) (Post.bnd (one_idx _) (Post.idx false a rfl (by omega) ?_))))))))
    rw [ha]
    refine Post.brF rfl (Post.bnd (one_idx _) (Post.idx false d rfl (by omega) ?_))
    rw [hd]
    exact Post.brF rfl (Post.bnd (one_idx _) (Post.pure rfl))
theorem wordsSpans_F (rs : List Int) (hn : rs.length ≤ 1048576) : law32_WordsSpans_F rs = some true := by
  obtain ⟨l, z, hl, hc, hb, hz, hzc⟩ := words_F rs (by omega)
  obtain ⟨_, _, h3⟩ := wb_ends (ks := ksOf rs l) hc l.length (Nat.le_refl _)
  have hzl := hzc.len
  have hB0 := clBreaks_first rs
  have hBn := clBreaks_last rs
  unfold law32_WordsSpans_F law32_WordsSpans_T
  refine Post.run (Post.bnd awake32 (Post.brF rfl (Post.bnd (breaks_F rs (by omega)) (Post.bnd hz (Post.altL (spans_loop rs hn (clBreaks_len rs) (fun i hi h => ?_) z (by omega) z.length 0 0 (by omega) hB0 hzc) (Post.pure ?_))))))
  · rcases h3 i hi h with rfl | rfl | h
    · exact hB0
    · exact hBn
    · exact h
  · simp

theorem wordsKinds_all (x : Tys.I [.sl (.int .i32)]) (h : WfAll [.sl (.int .i32)] x) (hb : bulkAll [.sl (.int .i32)] x ≤ 1048576) : law32_WordsKinds_F x.1 = some true := by
  simp only [bulkAll, bulk] at hb
  exact wordsKinds_F _ (by omega) (fun n hn => wf_i32 (h.1.2 n hn))
theorem wordsBreaks_all (x : Tys.I [.sl (.int .i32)]) (_h : WfAll [.sl (.int .i32)] x) (hb : bulkAll [.sl (.int .i32)] x ≤ 1048576) : law32_WordsBreaks_F x.1 = some true := by
  simp only [bulkAll, bulk] at hb
  exact wordsBreaks_F _ (by omega)
theorem wordsSpans_all (x : Tys.I [.sl (.int .i32)]) (_h : WfAll [.sl (.int .i32)] x) (hb : bulkAll [.sl (.int .i32)] x ≤ 1048576) : law32_WordsSpans_F x.1 = some true := by
  simp only [bulkAll, bulk] at hb
  exact wordsSpans_F _ (by omega)

end Go.Proofs.Ytbahobcalimoiaa
