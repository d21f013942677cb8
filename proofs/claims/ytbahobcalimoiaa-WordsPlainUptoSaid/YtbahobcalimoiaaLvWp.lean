/-
  Letters with spaces between them: WordsPlain returns true.
-/
import Derived.Test.YtbahobcalimoiaaLvWl
namespace Go.Proofs.Ytbahobcalimoiaa
set_option linter.all false

/-- letters and spaces -/
def LS (r : Int) : Prop := r = 32 ∨ (97 ≤ r ∧ r ≤ 122)
theorem lc_space : lc 32 = 9 := by decide +kernel
theorem mark9 (w : Int) : clMark 9 w = false := by unfold clMark; simp
theorem parts19 : clParts (1, false, 0) 9 false = true := by kernel_rfl
theorem parts91 : clParts (9, false, 0) 1 false = true := by kernel_rfl
theorem parts99 : clParts (9, false, 0) 9 false = true := by kernel_rfl
theorem add09 : clAdd (0, false, 0) 9 false true = (9, false, 0) := by kernel_rfl
theorem add19 : clAdd (1, false, 0) 9 false true = (9, false, 0) := by kernel_rfl
theorem add91 : clAdd (9, false, 0) 1 false true = (1, false, 0) := by kernel_rfl
theorem add99 : clAdd (9, false, 0) 9 false true = (9, false, 0) := by kernel_rfl
theorem ls_at (rs : List Int) (h : ∀ r ∈ rs, LS r) : ∀ k, k ≤ rs.length →
    ((k = 0 ∧ (clAt rs k).2 = (0, false, 0)) ∨ (0 < k ∧ ((clAt rs k).2 = (1, false, 0) ∨ (clAt rs k).2 = (9, false, 0)))) ∧ ∀ j, 0 < j → j < k → (clAt rs k).1.getD j false = true
  | 0, _ => ⟨.inl ⟨rfl, rfl⟩, fun j h1 h2 => by omega⟩
  | k + 1, hk => by
    obtain ⟨hp, hj⟩ := ls_at rs h k (by omega)
    have hlen := clAt_len rs k
    have hmem : LS (rs.getD k 0) := h _ (by
      rw [show rs.getD k 0 = rs[k] by simp [List.getD, show k < rs.length by omega]]
      exact List.getElem_mem (by omega))
    have hcl : (lc (rs.getD k 0) = 1 ∨ lc (rs.getD k 0) = 9) := by
      rcases hmem with e | e
      · rw [e]; exact .inr lc_space
      · exact .inl (lc_letter e)
    by_cases e : k = 0
    · subst e
      have hs : clAt rs (0 + 1) = ((clAt rs 0).1, clAdd (clAt rs 0).2 (lc (rs.getD 0 0)) (clMark (lc (rs.getD 0 0)) (cw (rs.getD 0 0))) ((clAt rs 0).1.getD 0 false)) := by
        rw [clAt.eq_2]; exact if_pos rfl
      have hb : (clAt rs 0).1.getD 0 false = true := by
        have := clAt_keeps rs 0 (.inl rfl) (by omega) 0 (by omega)
        simp only [List.getD, this]
        rfl
      have hp0 : (clAt rs 0).2 = (0, false, 0) := by
        rcases hp with ⟨_, hp⟩ | ⟨h, _⟩
        · exact hp
        · omega
      rw [hs, hb, hp0]
      refine ⟨.inr ⟨by omega, ?_⟩, fun j h1 h2 => by omega⟩
      rcases hcl with q | q <;> rw [q]
      · rw [mark1, add01]; exact .inl rfl
      · rw [mark9, add09]; exact .inr rfl
    · have hs : clAt rs (k + 1) = ((clAt rs k).1.set k (clParts (clAt rs k).2 (lc (rs.getD k 0)) (clMark (lc (rs.getD k 0)) (cw (rs.getD k 0)))), clAdd (clAt rs k).2 (lc (rs.getD k 0)) (clMark (lc (rs.getD k 0)) (cw (rs.getD k 0))) (clParts (clAt rs k).2 (lc (rs.getD k 0)) (clMark (lc (rs.getD k 0)) (cw (rs.getD k 0))))) := by
        rw [clAt]; exact if_neg e
      have hp2 : (clAt rs k).2 = (1, false, 0) ∨ (clAt rs k).2 = (9, false, 0) := by
        rcases hp with ⟨h, _⟩ | ⟨_, h⟩
        · exact absurd h e
        · exact h
      have put : ∀ {q : Int × Bool × Int}, (q = (1, false, 0) ∨ q = (9, false, 0)) → ((k + 1 = 0 ∧ q = (0, false, 0)) ∨ (0 < k + 1 ∧ (q = (1, false, 0) ∨ q = (9, false, 0)))) ∧ ∀ j, 0 < j → j < k + 1 → ((clAt rs k).1.set k true).getD j false = true := by
        intro q hq
        refine ⟨.inr ⟨by omega, hq⟩, fun j h1 h2 => ?_⟩
        rw [getD_set (by omega)]
        split
        · rfl
        · exact hj j h1 (by omega)
      rw [hs]
      rcases hcl with q | q <;> rw [q] <;> rcases hp2 with hp2 | hp2 <;> rw [hp2]
      · rw [mark1, parts11, add11]; exact put (.inl rfl)
      · rw [mark1, parts91, add91]; exact put (.inl rfl)
      · rw [mark9, parts19, add19]; exact put (.inr rfl)
      · rw [mark9, parts99, add99]; exact put (.inr rfl)
theorem ls_breaks (rs : List Int) (h : ∀ r ∈ rs, LS r) (i : Nat) (hi : i ≤ rs.length) : (clBreaks rs).getD i false = true := by
  by_cases e0 : i = 0
  · rw [e0]; exact clBreaks_first rs
  · by_cases en : i = rs.length
    · rw [en]; exact clBreaks_last rs
    · exact (ls_at rs h rs.length (Nat.le_refl _)).2 i (by omega) (by omega)
theorem kv_letters : ∀ n : Fin 26, (words_kind_F (97 + (n.1 : Int)) 1) = some 1 := by decide +kernel
theorem kv_letter {r : Int} (h : 97 ≤ r ∧ r ≤ 122) : kv r 1 = 1 := by
  have := kv_letters ⟨(r - 97).toNat, by omega⟩
  dsimp only at this
  rw [show (97 : Int) + ((r - 97).toNat : Int) = r by omega, kind_F] at this
  exact Option.some.inj this
theorem kv_space : kv 32 9 = 2 := by kernel_rfl
theorem ls_kind {r : Int} (h : LS r) : kv r (lc r) = if r = 32 then 2 else 1 := by
  rcases h with e | e
  · rw [e, lc_space, kv_space]; rfl
  · rw [lc_letter e, kv_letter e, if_neg (by omega)]
theorem ls_words (rs : List Int) (hn : rs.length ≤ 8388607) (h : ∀ r ∈ rs, LS r) {e : Nat} (he : rs.length = e + 1) : ∃ z, words_Of_F rs = some z ∧ z.length = ch (sp rs) e + 1 := by
  obtain ⟨l, z, hl, hc, hb, hz, hzc⟩ := words_F rs hn
  obtain ⟨hll, hat⟩ := chain_single (fun i hi => ls_breaks rs h i hi) hc
  have hat : ∀ k, k < l.length → l.getD k (0, 0) = ((k : Int), ((k + 1 : Nat) : Int)) := fun k hk => by
    rw [hat k hk, Nat.zero_add]
  have hll : l.length = rs.length := by omega
  obtain ⟨_, hWn, _⟩ := wb_ends (ks := ksOf rs l) hc l.length (Nat.le_refl _)
  have hks : ∀ i, i < rs.length → (ksOf rs l).getD i 0 = if sp rs i = true then 2 else 1 := fun i hi => by
    unfold ksOf
    rw [tab_getD _ _ (by omega), hat i (by omega)]
    dsimp only
    rw [Int.toNat_natCast, ls_kind (h _ (by
      rw [show rs.getD i 0 = rs[i] by simp [List.getD, hi]]
      exact List.getElem_mem hi))]
    unfold sp
    simp
  have hW : ∀ i, 0 < i → i < rs.length → (wb rs.length (ksOf rs l) l l.length).getD i false = !(sp rs (i - 1) == sp rs i) := fun i h0 hi => by
    have hs := wb_single (ks := ksOf rs l) hll hat rs.length (Nat.le_refl _) i h0 hi
    rw [← hll] at hs
    rw [hll] at hs ⊢
    rw [hs]
    unfold jo
    rw [hks i hi, hks (i - 1) (by omega)]
    cases sp rs (i - 1) <;> cases sp rs i <;> simp
  refine ⟨z, hz, ?_⟩
  have hcount := hzc.count
  generalize wb rs.length (ksOf rs l) l l.length = W at *
  have ht : trues W e = ch (sp rs) e := trues_ch fun j hj => by
    have := hW (j + 1) (by omega) (by omega)
    rw [show j + 1 - 1 = j by omega] at this
    exact this
  rw [he] at hcount hWn
  have h1 : trues W (e + 1) = trues W e + 1 := by
    show trues W e + (if W.getD (e + 1) false then 1 else 0) = _
    rw [hWn]
    rfl
  have h0 : trues W 0 = 0 := rfl
  omega

/-! ### the loops -/
theorem wt_len (ns : List Int) : ∀ k, (wt ns k).length ≤ 6 * k
  | 0 => by simp [wt]
  | k + 1 => by
    have ih := wt_len ns k
    have e : wt ns (k + 1) = wt ns k ++ ((if k = 0 then [] else [32]) ++ List.replicate ((ns.getD k 0 % 5).toNat + 1) (97 + ns.getD k 0 % 26)) := rfl
    rw [e]
    simp only [List.length_append, List.length_replicate]
    have : (if k = 0 then ([] : List Int) else [32]).length ≤ 1 := by split <;> simp
    omega
theorem rep_snoc {α : Type} (k : Nat) (x : α) : List.replicate k x ++ [x] = List.replicate (k + 1) x := by
  rw [← List.replicate_succ']
theorem plain10 (ns R t9 : List Int) (v t10 t11 : Int) (hv : 0 ≤ v ∧ v ≤ 255) (hR : R.length ≤ 8388607) :
    loopW (fun s : List Int × List Int × Int × Int × List Int × Int × Int => (law32_WordsPlain_L10 s.1 s.2.1 s.2.2.1 s.2.2.2.1 s.2.2.2.2.1 s.2.2.2.2.2.1 s.2.2.2.2.2.2).run) (ns, R, v, 0, t9, t10, t11) = some (ns, R ++ List.replicate ((v % 5).toNat + 1) (97 + v % 26), t9, t10, t11) := by
  have hw : IntKind.i64.wrap (v.tmod 5) = (((v % 5).toNat : Nat) : Int) := by
    rw [Int.tmod_eq_emod_of_nonneg hv.1, wrap64 (by omega) (by omega)]
    omega
  have hx : IntKind.i32.wrap (IntKind.i64.wrap (97 + (IntKind.i64.wrap v).tmod 26)) = 97 + v % 26 := by
    rw [wrap64 (n := v) (by omega) (by omega), Int.tmod_eq_emod_of_nonneg hv.1, wrap64 (by omega) (by omega), wrap32 (by omega) (by omega)]
  refine count (L := fun s : List Int × List Int × Int × Int × List Int × Int × Int => law32_WordsPlain_L10 s.1 s.2.1 s.2.2.1 s.2.2.2.1 s.2.2.2.2.1 s.2.2.2.2.2.1 s.2.2.2.2.2.2) ((v % 5).toNat + 1)
    (fun k => (ns, R ++ List.replicate k (97 + v % 26), v, (k : Int), t9, t10, t11)) (by simp) (fun k hk => ?_) ?_
  · dsimp only
    unfold law32_WordsPlain_L10
    rw [hw, hx, wrap_succ (by omega)]
    refine Post.brT (by rw [decide_eq_true_eq]; omega) (Post.bnd (app_eq (by simp only [List.length_append, List.length_replicate, List.length_singleton]; omega)) (Post.pure ?_))
    rw [List.append_assoc, rep_snoc]
  · dsimp only
    unfold law32_WordsPlain_L10
    rw [hw]
    exact Post.brF (by rw [decide_eq_false_iff_not]; omega) (Post.pure rfl)
theorem plain5 (ns : List Int) (hn : ns.length ≤ 1048576) (h8 : ∀ n ∈ ns, 0 ≤ n ∧ n ≤ 255) :
    loopW (fun s : List Int × List Int × List Int × Int × Int => (law32_WordsPlain_L5 s.1 s.2.1 s.2.2.1 s.2.2.2.1 s.2.2.2.2).run) (ns, [], ns, (ns.length : Int), 0) = some (ns, wt ns ns.length) := by
  refine count (L := fun s : List Int × List Int × List Int × Int × Int => law32_WordsPlain_L5 s.1 s.2.1 s.2.2.1 s.2.2.2.1 s.2.2.2.2) ns.length (fun k => (ns, wt ns k, ns, (ns.length : Int), (k : Int))) rfl (fun k hk => ?_) ?_
  · dsimp only
    unfold law32_WordsPlain_L5
    have hl := wt_len ns k
    have hm : 0 ≤ ns.getD k 0 ∧ ns.getD k 0 ≤ 255 := h8 _ (by
      rw [show ns.getD k 0 = ns[k] by simp [List.getD, hk]]
      exact List.getElem_mem hk)
    have e : wt ns (k + 1) = wt ns k ++ ((if k = 0 then [] else [32]) ++ List.replicate ((ns.getD k 0 % 5).toNat + 1) (97 + ns.getD k 0 % 26)) := rfl
    refine Post.brT (by rw [decide_eq_true_eq]; omega) (Post.idx 0 k rfl hk (Post.br (fun h => ?_) (fun h => ?_)))
    · rw [decide_eq_true_eq] at h
      refine Post.bnd (app_eq (by simp only [List.length_singleton]; omega)) (Post.bnd (plain10 ns _ ns _ _ _ hm (by simp only [List.length_append, List.length_singleton]; omega)) (Post.pure ?_))
      rw [e, if_neg (by omega), wrap_succ (by omega), List.append_assoc]
    · rw [decide_eq_false_iff_not] at h
      have h0 : k = 0 := by omega
      refine Post.bnd (plain10 ns _ ns _ _ _ hm (by omega)) (Post.pure ?_)
      rw [e, if_pos h0, wrap_succ (by omega), List.nil_append]
  · dsimp only
    unfold law32_WordsPlain_L5
    exact Post.brF (by rw [decide_eq_false_iff_not]; omega) (Post.pure rfl)
theorem wordsPlain_F (ns : List Int) (hn : ns.length ≤ 1048576) (h8 : ∀ n ∈ ns, 0 ≤ n ∧ n ≤ 255) : law32_WordsPlain_F ns = some true := by
  have hl := wt_len ns ns.length
  have h80 : ∀ k, 0 ≤ ns.getD k 0 := fun k => by
    by_cases h : k < ns.length
    · rw [show ns.getD k 0 = ns[k] by simp [List.getD, h]]
      exact (h8 _ (List.getElem_mem h)).1
    · rw [getD_len (by omega)]
      decide
  have hls : ∀ r ∈ wt ns ns.length, LS r := wt_mem ns h80 ns.length
  unfold law32_WordsPlain_F law32_WordsPlain_T
  rcases Nat.eq_zero_or_pos ns.length with hk | hk
  ·
    have e0 : wt ns ns.length = [] := by rw [hk]; rfl
    have hp := plain5 ns hn h8
    rw [e0] at hp
    obtain ⟨l, z, _, _, _, hz, hzc⟩ := words_F [] (Nat.zero_le _)
    have hz1 := hzc.len
    have hz0 : z.length = 0 := by
      rw [Nat.zero_add] at hz1
      exact Nat.le_zero.1 hz1
    refine Post.run (Post.bnd awake32 (Post.brF rfl (Post.bnd hp (Post.bnd hz (Post.pure ?_)))))
    dsimp only
    rw [hz0, hk]
    rfl
  · obtain ⟨k, hk⟩ : ∃ k, ns.length = k + 1 := ⟨ns.length - 1, by omega⟩
    obtain ⟨e, h1, _, h3⟩ := wt_ch ns h80 k
    rw [← hk] at h1 h3
    obtain ⟨z, hz, hzl⟩ := ls_words (wt ns ns.length) (by omega) hls h1
    have hp := plain5 ns hn h8
    refine Post.run (Post.bnd awake32 (Post.brF rfl (Post.bnd hp (Post.bnd hz (Post.pure ?_)))))
    dsimp only
    have w1 : IntKind.i64.wrap (2 * (ns.length : Int)) = 2 * (ns.length : Int) := wrap64 (by omega) (by omega)
    have w2 : IntKind.i64.wrap (2 * (ns.length : Int) - 1) = 2 * (ns.length : Int) - 1 := wrap64 (by omega) (by omega)
    rw [w1, w2, if_pos (by omega), beq_iff_eq]
    omega
theorem wordsPlain_all (x : Tys.I [.sl (.int .u8)]) (h : WfAll [.sl (.int .u8)] x) (hb : bulkAll [.sl (.int .u8)] x ≤ 1048576) : law32_WordsPlain_F x.1 = some true := by
  simp only [bulkAll, bulk] at hb
  exact wordsPlain_F _ (by omega) (fun n hn => wf_u8 (h.1.2 n hn))

end Go.Proofs.Ytbahobcalimoiaa
