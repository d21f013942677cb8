/-
  Words: the program's functions.
-/
import Derived.Test.YtbahobcalimoiaaLvWm
import Derived.Test.YtbahobcalimoiaaLvLr
namespace Go.Proofs.Ytbahobcalimoiaa
set_option linter.all false

/-! ### kinds -/
noncomputable def kv (r c : Int) : Int := (words_kind_F r c).getD 0
theorem kind_ex (r c : Int) : ∃ b, words_kind_F r c = some b := by
  unfold words_kind_F words_kind_T
  simp only [Tr.run_br, Tr.run_pure]
  repeat' first | exact ⟨_, rfl⟩ | refine ite_any ?_ ?_
theorem kind_F (r c : Int) : words_kind_F r c = some (kv r c) := by
  obtain ⟨b, h⟩ := kind_ex r c
  unfold kv
  rw [h]
  rfl
theorem lkind_F (r : Int) (h : -2147483648 ≤ r ∧ r ≤ 2147483647) : law32_kind_F r = some (kv r (lc r)) := by
  rw [← kind_F]
  have e : ref04_Line_F (IntKind.i64.wrap r) = some (lc r) := by rw [wrap64 (by omega) (by omega)]; exact line_F r h
  have hl := lc_le r
  have hw : IntKind.u8.wrap (lc r) = lc r := wrapU8 (by omega) (by omega)
  have hb : ∀ (b : Bool) (t u v : Tr Int), u.run = v.run → (Tr.br b t u).run = (Tr.br b t v).run := fun b t u v h => by rw [Tr.run_br, Tr.run_br, h]
  unfold law32_kind_F words_kind_F law32_kind_T words_kind_T
  refine hb _ _ _ _ (hb _ _ _ _ (hb _ _ _ _ (hb _ _ _ _ (hb _ _ _ _ (hb _ _ _ _ ?_)))))
  rw [Tr.run_bnd_some e, hw]
/-- what each cluster is -/
noncomputable def ksOf (rs : List Int) (l : List (Int × Int)) : List Int := tab l.length fun k => kv (rs.getD (l.getD k (0, 0)).1.toNat 0) (lc (rs.getD (l.getD k (0, 0)).1.toNat 0))
theorem ksOf_len (rs : List Int) (l : List (Int × Int)) : (ksOf rs l).length = l.length := tab_len _ _
theorem kinds_F (rs : List Int) (hn : rs.length ≤ 8388607) {B : List Bool} {l : List (Int × Int)} (hc : Chain B 0 l rs.length) : words_kinds_F rs l = some (ksOf rs l) := by
  have hll := hc.len
  unfold words_kinds_F words_kinds_T
  refine Post.run (Post.bnd (linec_of rs (by omega)) (Post.bnd (mk_eq (k := l.length) rfl (by omega)) ?_))
  rw [show List.replicate l.length (0 : Int) = tab l.length (fun _ => 0) from tab_rep _ _]
  refine Post.bnd (count (L := fun s : List Int × List Int × List Int × List (Int × Int) × Int × Int => words_kinds_L4 s.1 s.2.1 s.2.2.1 s.2.2.2.1 s.2.2.2.2.1 s.2.2.2.2.2) l.length
    (fun k => (rs, tab rs.length (fun i => lc (rs.getD i 0)), tab l.length (part (fun k => kv (rs.getD (l.getD k (0, 0)).1.toNat 0) (lc (rs.getD (l.getD k (0, 0)).1.toNat 0))) (fun _ => 0) k), l, (l.length : Int), (k : Int))) (r := ksOf rs l) rfl (fun k hk => ?_) ?_) (Post.pure rfl)
  · dsimp only
    unfold words_kinds_L4
    obtain ⟨i, j, e1, g1, g2, g3, _⟩ := chain_at hc k hk
    refine Post.brT (by rw [decide_eq_true_eq]; omega) (Post.idx (0, 0) k rfl hk ?_)
    have e2 : kv (rs.getD i 0) (lc (rs.getD i 0)) = (fun k => kv (rs.getD (l.getD k (0, 0)).1.toNat 0) (lc (rs.getD (l.getD k (0, 0)).1.toNat 0))) k := by
      dsimp only
      rw [e1]
      rfl
    rw [e1]
    refine Post.bnd (one_idx _) (Post.idx 0 i rfl (by omega) (Post.bnd (one_idx _) (ptab i rfl (by omega) (Post.bnd (kind_F _ _) (Post.idx 0 k rfl (by rw [tab_len]; exact hk) (Post.pure ?_))))))
    rw [wrap_succ (by omega), Int.toNat_natCast, e2, part_set _ rfl]
  · dsimp only
    unfold words_kinds_L4
    rw [part_end]
    exact Post.brF (by rw [decide_eq_false_iff_not]; omega) (Post.pure rfl)

/-! ### boundaries -/
theorem joined_F (ks : List Int) (k : Nat) (h0 : 0 < k) (hk : k < ks.length) (hn : ks.length ≤ 8388607) : words_joined_F ks (k : Int) = some (jo ks k) := by
  have w1 : IntKind.i64.wrap ((k : Int) - 1) = ((k - 1 : Nat) : Int) := by rw [wrap64 (by omega) (by omega)]; omega
  have w2 : IntKind.i64.wrap ((k : Int) + 1) = ((k + 1 : Nat) : Int) := wrap_succ (by omega)
  have i1 : idx ks ((k - 1 : Nat) : Int) = some (ks.getD (k - 1) 0) := idx_getD 0 rfl (by omega)
  have i2 : idx ks (k : Int) = some (ks.getD k 0) := idx_getD 0 rfl hk
  have i3 : k + 1 < ks.length → idx ks ((k + 1 : Nat) : Int) = some (ks.getD (k + 1) 0) := fun h => idx_getD 0 rfl h
  have i4 : 2 ≤ k → idx ks (IntKind.i64.wrap ((k : Int) - 2)) = some (ks.getD (k - 2) 0) := fun h => by
    rw [show IntKind.i64.wrap ((k : Int) - 2) = ((k - 2 : Nat) : Int) by rw [wrap64 (by omega) (by omega)]; omega]
    exact idx_getD 0 rfl (by omega)
  unfold words_joined_F words_joined_T jo
  rw [w1, w2]
  simp only [Tr.run_br, Tr.run_bnd, Tr.run_pure, i1, i2, Option.bind_some]
  generalize ks.getD (k - 1) 0 = a
  generalize ks.getD k 0 = c
  have d1 : decide (((k + 1 : Nat) : Int) < (ks.length : Int)) = decide (k + 1 < ks.length) := by
    by_cases h : k + 1 < ks.length
    · rw [decide_eq_true h, decide_eq_true (by omega)]
    · rw [decide_eq_false h, decide_eq_false (by omega)]
  have d2 : decide ((k : Int) ≥ 2) = decide (2 ≤ k) := by
    by_cases h : 2 ≤ k
    · rw [decide_eq_true h, decide_eq_true (by omega)]
    · rw [decide_eq_false h, decide_eq_false (by omega)]
  rw [d1, d2]
  generalize idx ks ((k + 1 : Nat) : Int) = o3 at i3 ⊢
  generalize idx ks (IntKind.i64.wrap ((k : Int) - 2)) = o4 at i4 ⊢
  generalize ks.getD (k + 1) 0 = d at i3 ⊢
  generalize ks.getD (k - 2) 0 = e at i4 ⊢
  have ha : a = 1 ∨ a = 2 ∨ a = 3 ∨ (a ≠ 1 ∧ a ≠ 2 ∧ a ≠ 3) := by omega
  have hc : c = 1 ∨ c = 2 ∨ c = 3 ∨ (c ≠ 1 ∧ c ≠ 2 ∧ c ≠ 3) := by omega
  clear i1 i2 w1 w2 d1 d2
  by_cases p : k + 1 < ks.length
  · have i3 := i3 p
    subst i3
    rw [decide_eq_true p]
    by_cases q : 2 ≤ k
    · have i4 := i4 q
      subst i4
      rw [decide_eq_true q]
      clear p q h0 hk hn
      rcases ha with rfl | rfl | rfl | ⟨a1, a2, a3⟩ <;> rcases hc with rfl | rfl | rfl | ⟨c1, c2, c3⟩ <;> simp [*]
    · rw [decide_eq_false q]
      clear p q h0 hk hn i4
      rcases ha with rfl | rfl | rfl | ⟨a1, a2, a3⟩ <;> rcases hc with rfl | rfl | rfl | ⟨c1, c2, c3⟩ <;> simp [*]
  · rw [decide_eq_false p]
    by_cases q : 2 ≤ k
    · have i4 := i4 q
      subst i4
      rw [decide_eq_true q]
      clear p q h0 hk hn i3
      rcases ha with rfl | rfl | rfl | ⟨a1, a2, a3⟩ <;> rcases hc with rfl | rfl | rfl | ⟨c1, c2, c3⟩ <;> simp [*]
    · rw [decide_eq_false q]
      clear p q h0 hk hn i3 i4
      rcases ha with rfl | rfl | rfl | ⟨a1, a2, a3⟩ <;> rcases hc with rfl | rfl | rfl | ⟨c1, c2, c3⟩ <;> simp [*]

theorem wbreaks_F (rs : List Int) (hn : rs.length ≤ 8388607) {B : List Bool} {l : List (Int × Int)} (hl : cluster_Of_F rs = some l) (hc : Chain B 0 l rs.length) : words_Breaks_F rs = some (wb rs.length (ksOf rs l) l l.length) := by
  have hll := hc.len
  have hkl := ksOf_len rs l
  unfold words_Breaks_F words_Breaks_T
  rw [wrap_succ (by omega)]
  have hend : wb rs.length (ksOf rs l) l (l.length - 1 + 1) = wb rs.length (ksOf rs l) l l.length := by
    by_cases e : l.length = 0
    · rw [e]; rfl
    · rw [Nat.sub_add_cancel (by omega)]
  refine Post.run (Post.bnd hl (Post.bnd (kinds_F rs hn hc) (Post.bnd (mk_eq (k := rs.length + 1) rfl (by omega)) (Post.idx false 0 rfl (by simp) (Post.idx false rs.length rfl (by simp) (Post.bnd (count (L := fun s : List (Int × Int) × List Int × List Bool × Int => words_Breaks_L6 s.1 s.2.1 s.2.2.1 s.2.2.2) (l.length - 1)
    (fun k => (l, ksOf rs l, wb rs.length (ksOf rs l) l (k + 1), ((k + 1 : Nat) : Int))) (r := wb rs.length (ksOf rs l) l l.length) rfl (fun k hk => ?_) ?_) (Post.pure rfl)))))))
  · dsimp only
    unfold words_Breaks_L6
    obtain ⟨i, j, e1, g1, g2, g3, _⟩ := chain_at hc (k + 1) (by omega)
    refine Post.brT (by rw [decide_eq_true_eq]; omega) (Post.idx (0, 0) (k + 1) rfl (by omega) (Post.bnd (joined_F _ (k + 1) (by omega) (by omega) (by omega)) ?_))
    rw [e1]
    refine Post.idx false i rfl (by rw [wb_len]; omega) (Post.pure ?_)
    rw [wrap_succ (by omega), wb_succ _ _ _ (k + 1), if_neg (by omega), e1]
  · dsimp only
    unfold words_Breaks_L6
    rw [← hend]
    exact Post.brF (by rw [decide_eq_false_iff_not]; omega) (Post.pure rfl)

theorem wof_loop {n : Nat} (hn : n ≤ 8388607) {W : List Bool} (hW : W.length = n + 1) (hWn : W.getD n false = true) :
    ∃ z, loopW (fun s : (List (Int × Int)) × Int × List Bool × Int × Int => (words_Of_L4 s.1 s.2.1 s.2.2.1 s.2.2.2.1 s.2.2.2.2).run) ([], 0, W, (W.length : Int), 0) = some z ∧ Chain W 0 z n := by
  refine loop_ex (L := fun s : (List (Int × Int)) × Int × List Bool × Int × Int => words_Of_L4 s.1 s.2.1 s.2.2.1 s.2.2.2.1 s.2.2.2.2)
    (I := fun s => ∃ (l : List (Int × Int)) (f k : Nat), f ≤ k ∧ k ≤ W.length ∧ f < W.length ∧ s = (l, (f : Int), W, (W.length : Int), (k : Int)) ∧ Chain W 0 l f ∧ ∀ j, f < j → j < k → W.getD j false = false)
    (m := fun s => W.length - s.2.2.2.2.toNat) (R := fun z => Chain W 0 z n) (s0 := ([], 0, W, (W.length : Int), 0))
    ?_ ⟨[], 0, 0, by omega, by omega, by omega, rfl, rfl, fun j h1 h2 => by omega⟩
  rintro s ⟨l, f, k, h1, h2, h0, rfl, h3, h4⟩
  dsimp only
  unfold words_Of_L4
  have hll := h3.len
  refine Post.br (fun hc => ?_) (fun hc => Post.pure ?_)
  · rw [decide_eq_true_eq] at hc
    rw [wrap_succ (by omega)]
    have stay : W.getD k false = false ∨ k = f → ∀ j, f < j → j < k + 1 → W.getD j false = false := fun h j hj1 hj2 => by
      by_cases e : j = k
      · subst e
        rcases h with h | h
        · exact h
        · omega
      · exact h4 j hj1 (by omega)
    refine Post.idx false k rfl (by omega) (Post.br (fun hb => Post.br (fun hd => ?_) (fun hd => Post.pure ?_)) (fun hb => Post.pure ?_))
    · rw [decide_eq_true_eq] at hd
      refine Post.bnd (app_eq (by simp only [List.length_cons, List.length_nil]; omega)) (Post.pure ?_)
      exact ⟨⟨_, k, k + 1, by omega, by omega, by omega, rfl, h3.snoc (by omega) (by omega) hb h4, fun j hj1 hj2 => by omega⟩, by dsimp only; omega⟩
    · rw [decide_eq_false_iff_not] at hd
      exact ⟨⟨l, f, k + 1, by omega, by omega, h0, rfl, h3, stay (.inr (by omega))⟩, by dsimp only; omega⟩
    · exact ⟨⟨l, f, k + 1, by omega, by omega, h0, rfl, h3, stay (.inl (by simpa using hb))⟩, by dsimp only; omega⟩
  · rw [decide_eq_false_iff_not] at hc
    have hf : f = n := by
      by_cases e : f = n
      · exact e
      · rw [h4 n (by omega) (by omega)] at hWn
        cases hWn
    rw [← hf]
    exact h3
/-- a text's clusters, the boundaries of its words, its words -/
theorem words_F (rs : List Int) (hn : rs.length ≤ 8388607) : ∃ l z, cluster_Of_F rs = some l ∧ Chain (clBreaks rs) 0 l rs.length ∧ words_Breaks_F rs = some (wb rs.length (ksOf rs l) l l.length) ∧ words_Of_F rs = some z ∧ Chain (wb rs.length (ksOf rs l) l l.length) 0 z rs.length := by
  obtain ⟨l, hl, hc⟩ := of_F rs hn
  have hb := wbreaks_F rs hn hl hc
  obtain ⟨z, hz, hzc⟩ := wof_loop (n := rs.length) hn (W := wb rs.length (ksOf rs l) l l.length) (wb_len _ _ _ _) (wb_ends hc _ (Nat.le_refl _)).2.1
  refine ⟨l, z, hl, hc, hb, ?_, hzc⟩
  unfold words_Of_F words_Of_T
  exact Post.run (Post.bnd hb (Post.bnd hz (Post.pure rfl)))

end Go.Proofs.Ytbahobcalimoiaa
