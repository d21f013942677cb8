/-
  The laws of explicit levels that ask no reference return true.
-/
import Derived.Test.YtjiehphakabflaaLawExplB
namespace Go.Proofs.Ytjiehphakabflaa
set_option linter.all false

/-- the classes that numbers stand for -/
theorem classes_F (ns : List Int) (hn : ns.length ≤ 2097152) (h8 : ∀ n ∈ ns, 0 ≤ n ∧ n ≤ 255) : ∃ cs, law08_Classes_F ns = some cs ∧ cs.length = ns.length ∧ cs = tab ns.length (fun i => (ns.getD i 0) % 23) ∧ ∀ c ∈ cs, 0 ≤ c ∧ c ≤ 22 := by
  refine ⟨tab ns.length (fun i => (ns.getD i 0) % 23), ?_, tab_len _ _, rfl, ?_⟩
  · unfold law08_Classes_F law08_Classes_T
    have hl := loopW_count (f := fun s : List Int × List Int × Int => (law08_Classes_L3 s.1 s.2.1 s.2.2).run) ns.length
      (fun k => (ns, tab k (fun i => (ns.getD i 0) % 23), (k : Int))) (r := tab ns.length (fun i => (ns.getD i 0) % 23)) ?_ ?_
    · rw [show ((0 : Nat) : Int) = 0 from rfl, tab_zero] at hl
      rw [Tr.run_bnd_some hl]
      rfl
    · intro k hk
      dsimp only
      unfold law08_Classes_L3
      have hm := h8 (ns.getD k 0) (by simp [List.getD, hk])
      rw [Tr.run_br, if_pos (by simp; omega), Tr.run_bnd_some (idx_getD 0 rfl hk), Tr.run_bnd_some (app_eq (by simp only [tab_len, List.length_cons, List.length_nil]; omega)), Tr.run_pure, Int.tmod_eq_emod_of_nonneg hm.1,
        wrap64 (by omega) (by omega), tab_succ k (fun i => (ns.getD i 0) % 23)]
      rfl
    · dsimp only
      unfold law08_Classes_L3
      rw [Tr.run_br, if_neg (by simp), Tr.run_pure]
  · intro c hc
    simp only [tab, List.mem_map] at hc
    obtain ⟨i, _, rfl⟩ := hc
    omega

theorem ints_F (cs : List Int) (hn : cs.length ≤ 4194304) (h8 : ∀ n ∈ cs, 0 ≤ n ∧ n ≤ 255) : law10_Ints_F cs = some cs := by
  unfold law10_Ints_F law10_Ints_T
  have hl := loopW_count (f := fun s : List Int × List Int × Int × Int => (law10_Ints_L3 s.1 s.2.1 s.2.2.1 s.2.2.2).run) cs.length
    (fun k => (tab k (fun i => cs.getD i 0), cs, (cs.length : Int), (k : Int))) (r := tab cs.length (fun i => cs.getD i 0)) ?_ ?_
  · rw [show ((0 : Nat) : Int) = 0 from rfl, tab_zero] at hl
    rw [Tr.run_bnd_some hl, Tr.run_pure, ← tab_self]
  · intro k hk
    dsimp only
    unfold law10_Ints_L3
    have hm := h8 (cs.getD k 0) (by simp [List.getD, hk])
    rw [Tr.run_br, if_pos (by simp; omega), Tr.run_bnd_some (idx_getD 0 rfl hk), Tr.run_bnd_some (app_eq (by simp only [tab_len, List.length_cons, List.length_nil]; omega)), Tr.run_pure, wrap64 (n := cs.getD k 0) (by omega) (by omega),
      wrap64 (by omega) (by omega), tab_succ k (fun i => cs.getD i 0)]
    rfl
  · dsimp only
    unfold law10_Ints_L3
    rw [Tr.run_br, if_neg (by simp), Tr.run_pure]


theorem lev2 {l : Int} (h : 0 ≤ l ∧ l ≤ 255) : ∃ v, IntKind.i64.wrap (l.tmod 2) = v ∧ 0 ≤ v ∧ v ≤ 1 := by
  refine ⟨_, rfl, ?_⟩
  rw [Int.tmod_eq_emod_of_nonneg h.1, wrap64 (by omega) (by omega)]
  omega

theorem awake11 : law11_awake_F = some true := by
  unfold law11_awake_F law11_awake_T
  refine Post.run (Post.bnd (resolve_F [16, 0, 18, 0] (lev := 0) (by omega) (by decide)) (Post.bnd (resolve_F [17, 0, 20, 22] (lev := 0) (by omega) (by decide)) (Post.brT (by kernel_rfl) ?_)))
  refine Post.bnd (b := -1) (by kernel_rfl) (Post.brT (by decide) (Post.bnd (b := 1) (by kernel_rfl) (Post.brT (by decide) (Post.bnd (b := 0) (by kernel_rfl) (Post.brT (by decide) (Post.brT (by kernel_rfl) (Post.brT (by kernel_rfl) ?_)))))))
  refine Post.bnd (b := 1) (by kernel_rfl) (Post.brT (by decide) (Post.bnd (b := 1) (by kernel_rfl) (Post.brT (by decide) (Post.bnd (b := 1) (by kernel_rfl) (Post.brT (by decide) (Post.bnd (b := 1) (by kernel_rfl) (Post.pure (by decide))))))))

theorem iso_lt {c : Int} (h : c < 14) : ¬ iso c = true := by unfold iso; simp; omega
theorem getD_mem {cs : List Int} {k : Nat} (h : k < cs.length) : cs.getD k 0 ∈ cs := by
  rw [show cs.getD k 0 = cs[k] by simp [List.getD, h]]
  exact List.getElem_mem h
theorem lv1_iso {lev a : Int} {m m' : Ms} (h : iso a = true) (n : ¬ (14 ≤ a ∧ a ≤ 17)) : lv1 lev a m m' = (hd m).1 := by
  unfold lv1; rw [if_neg n, if_pos h]

/-! ### levels have bounds -/
theorem ms_ge (cs : List Int) {lev : Int} (hl : 0 ≤ lev ∧ lev ≤ 1) : ∀ k, ∀ x ∈ (ms cs lev k).1, lev ≤ x.1
  | 0, x, hx => by rw [List.mem_singleton.1 hx]; exact Int.le_refl _
  | k + 1, x, hx => by
    have ih := ms_ge cs hl k
    have hg := ms_good cs hl k
    obtain ⟨r, e⟩ := hg.cons
    have ht := hg.top
    have htl : lev ≤ (hd (ms cs lev k)).1 := ih _ (by rw [e]; exact List.mem_cons_self)
    change x ∈ (stp (cs.getD k 0) (ask cs k) (ms cs lev k)).1 at hx
    unfold stp at hx
    repeat' split at hx
    · unfold embed at hx
      split at hx
      · rcases List.mem_cons.1 hx with rfl | hx
        · have := nx_le (hd (ms cs lev k)).1 (cs.getD k 0 == 16 || cs.getD k 0 == 17) ht.1
          dsimp only
          omega
        · exact ih x hx
      · split at hx
        · exact ih x hx
        · exact ih x hx
    · unfold enter at hx
      split at hx
      · rcases List.mem_cons.1 hx with rfl | hx
        · have := nx_le (hd (ms cs lev k)).1 (cs.getD k 0 == 20 || (cs.getD k 0 == 21 && ask cs k)) ht.1
          dsimp only
          omega
        · exact ih x hx
      · exact ih x hx
    · unfold leave at hx
      split at hx
      · exact ih x hx
      · split at hx
        · exact ih x hx
        · refine ih x ?_
          have h1 : x ∈ dw (ms cs lev k).1 := List.mem_of_mem_drop hx
          exact (List.dropWhile_sublist _).subset h1
    · unfold finish at hx
      repeat' split at hx
      · exact ih x hx
      · exact ih x hx
      · exact ih x (List.mem_of_mem_drop hx)
      · exact ih x hx
    · exact ih x hx
theorem hd_bounds (cs : List Int) {lev : Int} (hl : 0 ≤ lev ∧ lev ≤ 1) (k : Nat) : lev ≤ (hd (ms cs lev k)).1 ∧ (hd (ms cs lev k)).1 ≤ 125 := by
  have hg := ms_good cs hl k
  obtain ⟨r, e⟩ := hg.cons
  exact ⟨ms_ge cs hl k _ (by rw [e]; exact List.mem_cons_self), hg.top.2⟩
theorem und_cases {N : Nat} {m : Ms} (h : Good N m) (c : Int) : und m c = c ∨ und m c = 0 ∨ und m c = 1 := by
  unfold und
  have := h.topo
  split
  · exact .inl rfl
  · rename_i hne
    rcases this with e | e | e
    · exact absurd e hne
    · exact .inr (.inl e)
    · exact .inr (.inr e)

def taken (c : Int) : Bool := decide (14 ≤ c ∧ c ≤ 17) || (c == 18 || c == 9)
theorem taken_F (c : Int) : bidic_Taken_F c = some (taken c) := by
  unfold bidic_Taken_F bidic_Taken_T taken
  refine Post.run (Post.bnd (embedding_F c) (Post.br (fun h => Post.pure (by rw [h]; rfl)) (fun h => Post.br (fun h2 => Post.pure (by rw [h, h2]; rfl)) (fun h2 => Post.pure (by rw [h, h2]; rfl)))))

theorem lvs_facts (cs : List Int) {lev : Int} (hl : 0 ≤ lev ∧ lev ≤ 1) (k : Nat) : (lvs cs lev k == -1) = taken (cs.getD k 0) ∧ (lvs cs lev k ≠ -1 → lev ≤ lvs cs lev k ∧ lvs cs lev k ≤ 125) ∧ (cs.getD k 0 = 10 → lvs cs lev k = lev ∧ cls cs lev k = 10) ∧
    (cls cs lev k = cs.getD k 0 ∨ cls cs lev k = 0 ∨ cls cs lev k = 1) := by
  have h1 := hd_bounds cs hl k
  have h2 := hd_bounds cs hl (k + 1)
  have g1 := ms_good cs hl k
  have g2 := ms_good cs hl (k + 1)
  unfold lvs cls
  generalize cs.getD k 0 = c
  generalize ms cs lev k = m at *
  generalize ms cs lev (k + 1) = m' at *
  have u1 := und_cases g1 c
  have u2 := und_cases g2 c
  unfold lv1 cl1 taken
  by_cases a1 : 14 ≤ c ∧ c ≤ 17
  · rw [if_pos a1, if_pos a1, decide_eq_true a1]
    exact ⟨rfl, fun h => absurd rfl h, (fun h => by omega), .inl rfl⟩
  rw [if_neg a1, if_neg a1, decide_eq_false a1, Bool.false_or]
  by_cases a2 : iso c = true
  · rw [if_pos a2, if_pos a2]
    have a3 : c ≠ 18 ∧ c ≠ 9 ∧ c ≠ 10 := by refine ⟨?_, ?_, ?_⟩ <;> (rintro rfl; cases a2)
    refine ⟨?_, fun _ => h1, fun h => absurd h a3.2.2, u1⟩
    have e1 : ((hd m).1 == -1) = false := by simp; omega
    have e2 : (c == 18 || c == 9) = false := by simp [a3.1, a3.2.1]
    rw [e1, e2]
  rw [if_neg a2, if_neg a2]
  by_cases a3 : c = 22
  · subst a3
    rw [if_pos rfl, if_pos rfl]
    refine ⟨?_, fun _ => h2, (fun h => by cases h), u2⟩
    have e1 : ((hd m').1 == -1) = false := by simp; omega
    rw [e1]
    rfl
  rw [if_neg a3, if_neg a3]
  by_cases a4 : c = 18
  · subst a4
    exact ⟨rfl, fun h => absurd rfl h, (fun h => by cases h), .inl rfl⟩
  rw [if_neg a4, if_neg a4]
  by_cases a5 : c = 10
  · subst a5
    refine ⟨?_, fun _ => ⟨Int.le_refl _, by rw [if_pos rfl]; omega⟩, fun _ => ⟨rfl, rfl⟩, .inl rfl⟩
    rw [if_pos rfl]
    have e1 : (lev == -1) = false := by simp; omega
    rw [e1]
    rfl
  rw [if_neg a5, if_neg a5]
  by_cases a6 : c = 9
  · subst a6
    exact ⟨rfl, fun h => absurd rfl h, (fun h => by cases h), .inl rfl⟩
  rw [if_neg a6, if_neg a6]
  refine ⟨?_, fun _ => h1, fun h => absurd h a5, u1⟩
  have e1 : ((hd m).1 == -1) = false := by simp; omega
  have e2 : (c == 18 || c == 9) = false := by simp [a4, a6]
  rw [e1, e2]

theorem explicitBounds_F (ns : List Int) (l : Int) (hn : ns.length ≤ 2097152) (h8 : ∀ n ∈ ns, 0 ≤ n ∧ n ≤ 255) (hl8 : 0 ≤ l ∧ l ≤ 255) : law11_ExplicitBounds_F ns l = some true := by
  obtain ⟨cs, hc, hlen, _, hr⟩ := classes_F ns hn h8
  obtain ⟨lev, he, hlev⟩ := lev2 hl8
  unfold law11_ExplicitBounds_F law11_ExplicitBounds_T
  rw [he]
  refine Post.run (Post.bnd awake11 (Post.brF (by simp) (Post.bnd hc (Post.bnd (resolve_F cs hlev (by omega)) (Post.brF (by simp [tab_len]) (Post.brF (by simp [tab_len]) (Post.altL (count cs.length
    (fun k => (cs, lev, tab cs.length (lvs cs lev), tab cs.length (cls cs lev), (k : Int))) (r := Sum.inl ()) rfl (fun k hk => ?_) ?_) (Post.pure rfl))))))))
  · dsimp only
    unfold law11_ExplicitBounds_L9
    obtain ⟨f1, f2, f3, f4⟩ := lvs_facts cs hlev k
    rw [wrap_succ (k := k) (by omega)]
    refine Post.brT (decide_eq_true (by omega)) (ptab k rfl hk (Post.idx 0 k rfl hk (Post.bnd (taken_F _) (Post.brF (by rw [← f1]; simp) ?_))))
    have tail : Post (.bnd (idx (tab cs.length (cls cs lev)) (k : Int)) fun x_17 =>
              .bnd (idx cs (k : Int)) fun x_18 =>
              .br (x_17 != x_18) (
                .bnd (idx (tab cs.length (cls cs lev)) (k : Int)) fun x_19 =>
                .br (x_19 != 0) (
                  .bnd (idx (tab cs.length (cls cs lev)) (k : Int)) fun x_20 =>
                  .br (x_20 != 1) (
                    .pure (.done (.inr false))) (
                    .pure (.next (cs, lev, tab cs.length (lvs cs lev), tab cs.length (cls cs lev), ((k + 1 : Nat) : Int))))) (
                  .pure (.next (cs, lev, tab cs.length (lvs cs lev), tab cs.length (cls cs lev), ((k + 1 : Nat) : Int))))) (
                (.pure (.next (cs, lev, tab cs.length (lvs cs lev), tab cs.length (cls cs lev), ((k + 1 : Nat) : Int))) : Tr (Lap (List Int × Int × List Int × List Int × Int) (Sum Unit Bool))))) (· = .next (cs, lev, tab cs.length (lvs cs lev), tab cs.length (cls cs lev), ((k + 1 : Nat) : Int))) := by
      refine ptab k rfl hk (Post.idx 0 k rfl hk (Post.br (fun h => ptab k rfl hk (Post.br (fun h2 => ptab k rfl hk (Post.brF ?_ (Post.pure rfl))) (fun h2 => Post.pure rfl))) (fun h => Post.pure rfl)))
      have h : ¬ cls cs lev k = cs.getD k 0 := by simpa using h
      have h2 : ¬ cls cs lev k = 0 := by simpa using h2
      have : cls cs lev k = 1 := (f4.resolve_left h).resolve_left h2
      rw [this]; rfl
    have tail2 : Post (.bnd (idx cs (k : Int)) fun x_10 =>
            .br (x_10 == 10) (
              .bnd (idx (tab cs.length (lvs cs lev)) (k : Int)) fun x_11 =>
              .br (x_11 != lev) (
                .pure (.done (.inr false))) (
                .bnd (idx (tab cs.length (cls cs lev)) (k : Int)) fun x_12 =>
                .br (x_12 != 10) (
                  .pure (.done (.inr false))) (
                  .bnd (idx (tab cs.length (cls cs lev)) (k : Int)) fun x_13 =>
                  .bnd (idx cs (k : Int)) fun x_14 =>
                  .br (x_13 != x_14) (
                    .bnd (idx (tab cs.length (cls cs lev)) (k : Int)) fun x_15 =>
                    .br (x_15 != 0) (
                      .bnd (idx (tab cs.length (cls cs lev)) (k : Int)) fun x_16 =>
                      .br (x_16 != 1) (
                        .pure (.done (.inr false))) (
                        .pure (.next (cs, lev, tab cs.length (lvs cs lev), tab cs.length (cls cs lev), ((k + 1 : Nat) : Int))))) (
                      .pure (.next (cs, lev, tab cs.length (lvs cs lev), tab cs.length (cls cs lev), ((k + 1 : Nat) : Int))))) (
                    .pure (.next (cs, lev, tab cs.length (lvs cs lev), tab cs.length (cls cs lev), ((k + 1 : Nat) : Int))))))) (
              .bnd (idx (tab cs.length (cls cs lev)) (k : Int)) fun x_17 =>
              .bnd (idx cs (k : Int)) fun x_18 =>
              .br (x_17 != x_18) (
                .bnd (idx (tab cs.length (cls cs lev)) (k : Int)) fun x_19 =>
                .br (x_19 != 0) (
                  .bnd (idx (tab cs.length (cls cs lev)) (k : Int)) fun x_20 =>
                  .br (x_20 != 1) (
                    .pure (.done (.inr false))) (
                    .pure (.next (cs, lev, tab cs.length (lvs cs lev), tab cs.length (cls cs lev), ((k + 1 : Nat) : Int))))) (
                  .pure (.next (cs, lev, tab cs.length (lvs cs lev), tab cs.length (cls cs lev), ((k + 1 : Nat) : Int))))) (
                (.pure (.next (cs, lev, tab cs.length (lvs cs lev), tab cs.length (cls cs lev), ((k + 1 : Nat) : Int))) : Tr (Lap (List Int × Int × List Int × List Int × Int) (Sum Unit Bool)))))) (· = .next (cs, lev, tab cs.length (lvs cs lev), tab cs.length (cls cs lev), ((k + 1 : Nat) : Int))) := by
      refine Post.idx 0 k rfl hk (Post.br (fun h => ptab k rfl hk (Post.brF ?_ (ptab k rfl hk (Post.brF ?_ tail)))) (fun h => tail))
      · rw [(f3 (by simpa using h)).1]; simp
      · rw [(f3 (by simpa using h)).2]; rfl
    refine ptab k rfl hk (Post.br (fun h => ptab k rfl hk (Post.brF ?_ (ptab k rfl hk (Post.brF ?_ tail2)))) (fun h => tail2))
    · have := f2 (by simpa using h); exact decide_eq_false (by omega)
    · have := f2 (by simpa using h); exact decide_eq_false (by omega)
  · dsimp only
    unfold law11_ExplicitBounds_L9
    exact Post.brF (decide_eq_false (by omega)) (Post.pure rfl)

/-! ### some classes alone -/
theorem flt_take (p : Int → Bool) (cs : List Int) {k : Nat} (hk : k < cs.length) : (cs.take (k + 1)).filter p = (cs.take k).filter p ++ (if p (cs.getD k 0) then [cs.getD k 0] else []) := by
  rw [List.take_succ_eq_append_getElem hk, List.filter_append]
  have : cs[k] = cs.getD k 0 := by simp [List.getD, hk]
  rw [this]
  by_cases h : p (cs.getD k 0) = true
  · rw [if_pos h, List.filter_cons_of_pos h, List.filter_nil]
  · rw [if_neg h, List.filter_cons_of_neg h, List.filter_nil]
theorem flt_len (p : Int → Bool) (cs : List Int) (k : Nat) : ((cs.take k).filter p).length ≤ cs.length := Nat.le_trans (List.length_filter_le _ _) (by rw [List.length_take]; omega)

def keepP (c : Int) : Bool := decide (c < 14) && c != 9
theorem ms_plain {cs : List Int} {lev : Int} (h : ∀ c ∈ cs, c < 14) : ∀ k, ms cs lev k = ([(lev, 13, false)], 0, 0, 0)
  | 0 => rfl
  | k + 1 => by
    show stp (cs.getD k 0) (ask cs k) (ms cs lev k) = _
    have hc : cs.getD k 0 < 14 := by
      by_cases hk : k < cs.length
      · exact h _ (getD_mem hk)
      · rw [getD_len (by omega)]; omega
    unfold stp
    have hi : ¬ iso (cs.getD k 0) = true := iso_lt hc
    rw [if_neg (by omega), if_neg hi, if_neg (by omega), if_neg (by omega)]
    exact ms_plain h k
theorem plain_at {cs : List Int} {lev : Int} (h : ∀ c ∈ cs, c < 14 ∧ c ≠ 9) {k : Nat} (hk : k < cs.length) : lvs cs lev k = lev ∧ cls cs lev k = cs.getD k 0 := by
  have hc : cs.getD k 0 < 14 ∧ cs.getD k 0 ≠ 9 := h _ (getD_mem hk)
  unfold lvs cls
  rw [ms_plain (fun c hc => (h c hc).1) k, ms_plain (fun c hc => (h c hc).1) (k + 1)]
  generalize cs.getD k 0 = c at hc ⊢
  have hi : ¬ iso c = true := iso_lt hc.1
  unfold lv1 cl1
  have n1 : ¬ (14 ≤ c ∧ c ≤ 17) := by omega
  have n2 : ¬ c = 22 := by omega
  have n3 : ¬ c = 18 := by omega
  simp only [if_neg n1, if_neg hi, if_neg n2, if_neg n3, if_neg hc.2]
  by_cases h10 : c = 10
  · simp only [if_pos h10]; exact ⟨trivial, trivial⟩
  · simp only [if_neg h10]; exact ⟨rfl, rfl⟩

theorem explicitPlain_F (ns : List Int) (l : Int) (hn : ns.length ≤ 2097152) (h8 : ∀ n ∈ ns, 0 ≤ n ∧ n ≤ 255) (hl8 : 0 ≤ l ∧ l ≤ 255) : law11_ExplicitPlain_F ns l = some true := by
  obtain ⟨cs, hc, hlen, _, hr⟩ := classes_F ns hn h8
  obtain ⟨lev, he, hlev⟩ := lev2 hl8
  unfold law11_ExplicitPlain_F law11_ExplicitPlain_T
  refine Post.run (Post.bnd awake11 (Post.brF (by simp) (Post.bnd hc (Post.bnd (count cs.length (fun k => (l, (cs.take k).filter keepP, cs, (cs.length : Int), (k : Int))) (r := (l, cs.filter keepP)) rfl (fun k hk => ?_) ?_) ?_))))
  · dsimp only
    unfold law11_ExplicitPlain_L5
    have hfl := flt_len keepP cs k
    rw [flt_take keepP cs hk, wrap_succ (by omega)]
    refine Post.brT (decide_eq_true (by omega)) (Post.idx 0 k rfl hk (Post.br (fun h => Post.br (fun h2 => ?_) (fun h2 => Post.pure ?_)) (fun h => Post.pure ?_)))
    · refine Post.bnd (app_eq (by simp only [List.length_cons, List.length_nil]; omega)) (Post.pure ?_)
      rw [if_pos (show keepP (cs.getD k 0) = true by unfold keepP; rw [h, h2]; rfl)]
    · rw [if_neg (show ¬ keepP (cs.getD k 0) = true by unfold keepP; rw [h, h2]; simp), List.append_nil]
    · rw [if_neg (show ¬ keepP (cs.getD k 0) = true by unfold keepP; rw [h]; simp), List.append_nil]
  · dsimp only
    unfold law11_ExplicitPlain_L5
    rw [List.take_of_length_le (Nat.le_refl _)]
    exact Post.brF (decide_eq_false (by omega)) (Post.pure rfl)
  dsimp only
  have hfl : (cs.filter keepP).length ≤ cs.length := List.length_filter_le _ _
  have hp : ∀ c ∈ cs.filter keepP, c < 14 ∧ c ≠ 9 := fun c hc => by
    have := (List.mem_filter.1 hc).2
    unfold keepP at this
    simpa using this
  generalize cs.filter keepP = ds at hfl hp
  rw [he]
  refine Post.bnd (resolve_F ds hlev (by omega)) (Post.brF (by simp [tab_len]) (Post.brF (by simp [tab_len]) (Post.altL (count ds.length
    (fun k => (l, ds, tab ds.length (lvs ds lev), tab ds.length (cls ds lev), (k : Int))) (r := Sum.inl ()) rfl (fun k hk => ?_) ?_) (Post.pure rfl))))
  · dsimp only
    unfold law11_ExplicitPlain_L14
    obtain ⟨e1, e2⟩ := plain_at (lev := lev) hp hk
    rw [wrap_succ (k := k) (by omega), he]
    refine Post.brT (decide_eq_true (by omega)) (ptab k rfl hk (Post.brF (by rw [e1]; simp) (ptab k rfl hk (Post.idx 0 k rfl hk (Post.brF (by rw [e2]; simp) (Post.pure rfl))))))
  · dsimp only
    unfold law11_ExplicitPlain_L14
    exact Post.brF (decide_eq_false (by omega)) (Post.pure rfl)

/-! ### what stands ahead -/
def keepA (c : Int) : Bool := c != 21
theorem stp_ask {c : Int} (h : c ≠ 21) (a b : Bool) (m : Ms) : stp c a m = stp c b m := by
  have : (c == 21) = false := by simpa using h
  unfold stp
  rw [this]
  rfl
theorem ms_take {cs : List Int} {lev : Int} (h : ∀ c ∈ cs, c ≠ 21) {n : Nat} (hn : n ≤ cs.length) : ∀ k, k ≤ n → ms (cs.take n) lev k = ms cs lev k
  | 0, _ => rfl
  | k + 1, hk => by
    show stp ((cs.take n).getD k 0) (ask (cs.take n) k) (ms (cs.take n) lev k) = stp (cs.getD k 0) (ask cs k) (ms cs lev k)
    rw [take_getD 0 (show k < n by omega), ms_take h hn k (by omega)]
    exact stp_ask (h _ (getD_mem (by omega))) _ _ _

theorem tmod_lt {a m : Int} (ha : 0 ≤ a) (hm : 0 < m) : 0 ≤ a.tmod m ∧ a.tmod m < m := by
  rw [Int.tmod_eq_emod_of_nonneg ha]
  exact ⟨Int.emod_nonneg _ (by omega), Int.emod_lt_of_pos _ hm⟩

theorem explicitAhead_F (ns : List Int) (l q : Int) (hn : ns.length ≤ 2097152) (h8 : ∀ n ∈ ns, 0 ≤ n ∧ n ≤ 255) (hl8 : 0 ≤ l ∧ l ≤ 255) (hq8 : 0 ≤ q ∧ q ≤ 255) : law11_ExplicitAhead_F ns l q = some true := by
  obtain ⟨cs, hc, hlen, _, hr⟩ := classes_F ns hn h8
  obtain ⟨lev, he, hlev⟩ := lev2 hl8
  unfold law11_ExplicitAhead_F law11_ExplicitAhead_T
  refine Post.run (Post.bnd awake11 (Post.brF (by simp) (Post.bnd hc (Post.bnd (count cs.length (fun k => (l, q, (cs.take k).filter keepA, cs, (cs.length : Int), (k : Int))) (r := (l, q, cs.filter keepA)) rfl (fun k hk => ?_) ?_) ?_))))
  · dsimp only
    unfold law11_ExplicitAhead_L5
    have hfl := flt_len keepA cs k
    rw [flt_take keepA cs hk, wrap_succ (by omega)]
    refine Post.brT (decide_eq_true (by omega)) (Post.idx 0 k rfl hk (Post.br (fun h => ?_) (fun h => Post.pure ?_)))
    · refine Post.bnd (app_eq (by simp only [List.length_cons, List.length_nil]; omega)) (Post.pure ?_)
      rw [if_pos (show keepA (cs.getD k 0) = true from h)]
    · rw [if_neg (show ¬ keepA (cs.getD k 0) = true by unfold keepA; rw [h]; simp), List.append_nil]
  · dsimp only
    unfold law11_ExplicitAhead_L5
    rw [List.take_of_length_le (Nat.le_refl _)]
    exact Post.brF (decide_eq_false (by omega)) (Post.pure rfl)
  dsimp only
  have hfl : (cs.filter keepA).length ≤ cs.length := List.length_filter_le _ _
  have hp : ∀ c ∈ cs.filter keepA, c ≠ 21 := fun c hc => by
    have := (List.mem_filter.1 hc).2
    unfold keepA at this
    simpa using this
  generalize cs.filter keepA = ds at hfl hp
  rw [he, wrap64 (n := q) (by omega) (by omega), wrap64 (n := (ds.length : Int) + 1) (by omega) (by omega)]
  have ht := tmod_lt (a := q) (m := (ds.length : Int) + 1) hq8.1 (by omega)
  generalize q.tmod ((ds.length : Int) + 1) = n at ht
  obtain ⟨n, rfl⟩ : ∃ m : Nat, n = m := ⟨n.toNat, by omega⟩
  have tl : (ds.take n).length = n := by rw [List.length_take]; omega
  refine Post.brT (by simp; omega) (Post.bnd (resolve_F ds hlev (by omega)) (Post.bnd (cut_take rfl (by omega)) (Post.bnd (resolve_F (ds.take n) hlev (by omega)) (Post.brF (by simp [tab_len]) (Post.brF (by simp [tab_len]; omega) (Post.brF (by simp [tab_len]) (Post.brF (by simp [tab_len]; omega)
    (Post.altL (count n (fun k => ((n : Int), tab ds.length (lvs ds lev), tab ds.length (cls ds lev), tab (ds.take n).length (lvs (ds.take n) lev), tab (ds.take n).length (cls (ds.take n) lev), (k : Int))) (r := Sum.inl ()) rfl (fun k hk => ?_) ?_) (Post.pure rfl)))))))))
  · dsimp only
    unfold law11_ExplicitAhead_L16
    have e1 := ms_take (lev := lev) hp (n := n) (by omega) k (by omega)
    have e2 := ms_take (lev := lev) hp (n := n) (by omega) (k + 1) (by omega)
    have e3 := take_getD (xs := ds) 0 hk
    have el : lvs (ds.take n) lev k = lvs ds lev k := by unfold lvs; rw [e1, e2, e3]
    have ec : cls (ds.take n) lev k = cls ds lev k := by unfold cls; rw [e1, e2, e3]
    rw [wrap_succ (k := k) (by omega)]
    refine Post.brT (decide_eq_true (by omega)) (ptab k rfl (by omega) (ptab k rfl (by omega) (Post.brF (by rw [el]; simp) (ptab k rfl (by omega) (ptab k rfl (by omega) (Post.brF (by rw [ec]; simp) (Post.pure rfl)))))))
  · dsimp only
    unfold law11_ExplicitAhead_L16
    exact Post.brF (decide_eq_false (by omega)) (Post.pure rfl)

/-! ### an FSI and what it counts as -/
theorem ask_next (a b : Int) (t : List Int) (k : Nat) : ask (a :: t) (k + 1) = ask (b :: t) (k + 1) := by simp [ask, List.getD]
theorem ms_next {a b : Int} {t : List Int} {lev : Int} (h : ms (a :: t) lev 1 = ms (b :: t) lev 1) : ∀ k, ms (a :: t) lev (k + 1) = ms (b :: t) lev (k + 1)
  | 0 => h
  | k + 1 => by
    show stp ((a :: t).getD (k + 1) 0) (ask (a :: t) (k + 1)) (ms (a :: t) lev (k + 1)) = stp ((b :: t).getD (k + 1) 0) (ask (b :: t) (k + 1)) (ms (b :: t) lev (k + 1))
    rw [ms_next h k, ask_next a b t k]
    simp [List.getD]
theorem lvs_fsi {a b : Int} {t : List Int} {lev : Int} (ha : iso a = true) (hb : iso b = true) (na : ¬ (14 ≤ a ∧ a ≤ 17)) (nb : ¬ (14 ≤ b ∧ b ≤ 17)) (h : ms (a :: t) lev 1 = ms (b :: t) lev 1) : ∀ k, lvs (a :: t) lev k = lvs (b :: t) lev k
  | 0 => by
    show lv1 lev a (ms (a :: t) lev 0) (ms (a :: t) lev 1) = lv1 lev b (ms (b :: t) lev 0) (ms (b :: t) lev 1)
    rw [lv1_iso ha na, lv1_iso hb nb]
    rfl
  | k + 1 => by
    unfold lvs
    rw [ms_next h k, ms_next h (k + 1)]
    simp [List.getD]
theorem fsi_start {b s : Int} {t : List Int} {lev : Int} (hb : iso b = true) (nb : ¬ (14 ≤ b ∧ b ≤ 17)) (h : (b == 20 || (b == 21 && ask (b :: s :: t) 0)) = val (s :: t)) : ms (21 :: s :: t) lev 1 = ms (b :: s :: t) lev 1 := by
  show stp 21 (ask (21 :: s :: t) 0) ([(lev, 13, false)], 0, 0, 0) = stp b (ask (b :: s :: t) 0) ([(lev, 13, false)], 0, 0, 0)
  unfold stp
  rw [if_neg (by decide), if_pos (by decide), if_neg nb, if_pos hb, h]
  rfl

theorem explicitFirst_F (ns : List Int) (l : Int) (right : Bool) (hn : ns.length ≤ 2097152) (h8 : ∀ n ∈ ns, 0 ≤ n ∧ n ≤ 255) (hl8 : 0 ≤ l ∧ l ≤ 255) : law11_ExplicitFirst_F ns l right = some true := by
  obtain ⟨cs, hc, hlen, _, hr⟩ := classes_F ns hn h8
  obtain ⟨lev, he, hlev⟩ := lev2 hl8
  unfold law11_ExplicitFirst_F law11_ExplicitFirst_T
  rw [he]
  have key : ∀ (b s : Int), (∀ k, lvs (21 :: s :: cs) lev k = lvs (b :: s :: cs) lev k) → loopW (fun s => (law11_ExplicitFirst_L10 s.1 s.2.1 s.2.2.1 s.2.2.2.1 s.2.2.2.2).run) (cs, tab (21 :: s :: cs).length (lvs (21 :: s :: cs) lev), tab (b :: s :: cs).length (lvs (b :: s :: cs) lev), ((tab (21 :: s :: cs).length (lvs (21 :: s :: cs) lev)).length : Int), 0) = some (.inl (cs, tab (21 :: s :: cs).length (lvs (21 :: s :: cs) lev))) := by
    intro b s hk
    rw [tab_len]
    refine count (cs.length + 2) (fun k => (cs, tab (21 :: s :: cs).length (lvs (21 :: s :: cs) lev), tab (b :: s :: cs).length (lvs (b :: s :: cs) lev), ((21 :: s :: cs).length : Int), (k : Int))) rfl (fun k hkl => ?_) ?_
    · dsimp only
      unfold law11_ExplicitFirst_L10
      have hl1 : k < (21 :: s :: cs).length := by simp only [List.length_cons]; omega
      have hl2 : k < (b :: s :: cs).length := by simp only [List.length_cons]; omega
      rw [wrap_succ (k := k) (by omega)]
      exact Post.brT (decide_eq_true (by omega)) (Post.brF (by simp [tab_len]) (ptab k rfl hl1 (ptab k rfl hl2 (Post.brF (by rw [hk k]; simp) (Post.pure rfl)))))
    · dsimp only
      unfold law11_ExplicitFirst_L10
      exact Post.brF (decide_eq_false (by simp only [List.length_cons]; omega)) (Post.pure rfl)
  have e2 : IntKind.i64.wrap ((cs.length : Int) + 2) = ((cs.length + 2 : Nat) : Int) := by rw [wrap64 (by omega) (by omega)]; omega
  have lim : ∀ a b : Int, (a :: b :: cs).length ≤ 4194302 := fun a b => by simp only [List.length_cons]; omega
  refine Post.run (Post.bnd awake11 (Post.brF (by simp) (Post.br (fun h => ?_) (fun h => ?_))))
  · refine Post.bnd hc (Post.bnd (app_eq (by simp only [List.length_cons, List.length_nil]; omega)) (Post.bnd (resolve_F (21 :: 1 :: cs) hlev (lim _ _)) (Post.bnd (app_eq (by simp only [List.length_cons, List.length_nil]; omega)) (Post.bnd (resolve_F (20 :: 1 :: cs) hlev (lim _ _)) (Post.altL (key 20 1 ?_) (Post.pure ?_))))))
    · exact lvs_fsi rfl rfl (by decide) (by decide) (fsi_start rfl (by decide) (by rw [val_strong (by decide) (by decide) (by decide)]; rfl))
    · rw [e2, tab_len]; simp; omega
  · refine Post.bnd hc (Post.bnd (app_eq (by simp only [List.length_cons, List.length_nil]; omega)) (Post.bnd (resolve_F (21 :: 0 :: cs) hlev (lim _ _)) (Post.bnd (app_eq (by simp only [List.length_cons, List.length_nil]; omega)) (Post.bnd (resolve_F (19 :: 0 :: cs) hlev (lim _ _)) (Post.altL (key 19 0 ?_) (Post.pure ?_))))))
    · exact lvs_fsi rfl rfl (by decide) (by decide) (fsi_start rfl (by decide) (by rw [val_strong (by decide) (by decide) (by decide)]; rfl))
    · rw [e2, tab_len]; simp; omega

theorem explicitBounds_all (x : Tys.I [.sl (.int .u8), .int .u8]) (h : WfAll [.sl (.int .u8), .int .u8] x) (hb : bulkAll [.sl (.int .u8), .int .u8] x ≤ 1048576) : law11_ExplicitBounds_F x.1 x.2.1 = some true := by
  simp only [bulkAll, bulk] at hb
  exact explicitBounds_F _ _ (by omega) (fun n hn => wf_u8 (h.1.2 n hn)) (wf_u8 h.2.1)
theorem explicitPlain_all (x : Tys.I [.sl (.int .u8), .int .u8]) (h : WfAll [.sl (.int .u8), .int .u8] x) (hb : bulkAll [.sl (.int .u8), .int .u8] x ≤ 1048576) : law11_ExplicitPlain_F x.1 x.2.1 = some true := by
  simp only [bulkAll, bulk] at hb
  exact explicitPlain_F _ _ (by omega) (fun n hn => wf_u8 (h.1.2 n hn)) (wf_u8 h.2.1)
theorem explicitAhead_all (x : Tys.I [.sl (.int .u8), .int .u8, .int .u8]) (h : WfAll [.sl (.int .u8), .int .u8, .int .u8] x) (hb : bulkAll [.sl (.int .u8), .int .u8, .int .u8] x ≤ 1048576) : law11_ExplicitAhead_F x.1 x.2.1 x.2.2.1 = some true := by
  simp only [bulkAll, bulk] at hb
  exact explicitAhead_F _ _ _ (by omega) (fun n hn => wf_u8 (h.1.2 n hn)) (wf_u8 h.2.1) (wf_u8 h.2.2.1)
theorem explicitFirst_all (x : Tys.I [.sl (.int .u8), .int .u8, .bool]) (h : WfAll [.sl (.int .u8), .int .u8, .bool] x) (hb : bulkAll [.sl (.int .u8), .int .u8, .bool] x ≤ 1048576) : law11_ExplicitFirst_F x.1 x.2.1 x.2.2.1 = some true := by
  simp only [bulkAll, bulk] at hb
  exact explicitFirst_F _ _ _ (by omega) (fun n hn => wf_u8 (h.1.2 n hn)) (wf_u8 h.2.1)

end Go.Proofs.Ytjiehphakabflaa
