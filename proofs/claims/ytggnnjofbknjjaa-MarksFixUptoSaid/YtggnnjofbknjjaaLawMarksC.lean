/-
  Marks: the program's places are the document's.
-/
import Derived.Test.YtggnnjofbknjjaaLawMarks
namespace Go.Proofs.Ytggnnjofbknjjaa
set_option linter.all false

/-- levels that may be -/
def lev (ns : List Int) (i : Nat) : Int := if (ns.getD i 0) % 8 = 7 then -1 else ((ns.getD i 0) / 8) % 6
theorem levels_F (ns : List Int) (hn : ns.length ≤ 2097152) (h8 : ∀ n ∈ ns, 0 ≤ n ∧ n ≤ 255) : law12_Levels_F ns = some (tab ns.length (lev ns)) := by
  unfold law12_Levels_F law12_Levels_T
  have hl := loopW_count (f := fun s : List Int × List Int × Int => (law12_Levels_L3 s.1 s.2.1 s.2.2).run) ns.length
    (fun k => (ns, tab k (lev ns), (k : Int))) (r := tab ns.length (lev ns)) ?_ ?_
  · rw [show ((0 : Nat) : Int) = 0 from rfl, tab_zero] at hl
    rw [Tr.run_bnd_some hl]
    rfl
  · intro k hk
    dsimp only
    have hm := h8 (ns.getD k 0) (by simp [List.getD, hk])
    unfold law12_Levels_L3
    rw [Tr.run_br, if_pos (by simp; omega), Tr.run_bnd_some (idx_getD 0 rfl hk), Tr.run_br, Int.tmod_eq_emod_of_nonneg hm.1, wrap64 (n := (k : Int) + 1) (by omega) (by omega)]
    by_cases e : ns.getD k 0 % 8 = 7
    · rw [if_pos (by simpa using e), Tr.run_bnd_some (app_eq (by simp [tab_len]; omega)), Tr.run_pure, ← tab_succ k (lev ns), lev, if_pos e]
      rfl
    · have hd : (ns.getD k 0).tdiv 8 = ns.getD k 0 / 8 := Int.tdiv_eq_ediv_of_nonneg hm.1
      rw [if_neg (by simpa using e), Tr.run_bnd_some (idx_getD 0 rfl hk), Tr.run_bnd_some (app_eq (by simp [tab_len]; omega)), Tr.run_pure, ← tab_succ k (lev ns), lev, if_neg e, hd, wrapU8 (by omega) (by omega), wrap64 (by omega) (by omega),
        Int.tmod_eq_emod_of_nonneg (by omega)]
      rfl
  · dsimp only
    unfold law12_Levels_L3
    rw [Tr.run_br, if_neg (by simp), Tr.run_pure]
theorem classes_F (ns : List Int) (hn : ns.length ≤ 2097152) (h8 : ∀ n ∈ ns, 0 ≤ n ∧ n ≤ 255) : ∃ cs, law08_Classes_F ns = some cs ∧ cs.length = ns.length ∧ cs = tab ns.length (fun i => (ns.getD i 0) % 23) ∧ ∀ c ∈ cs, 0 ≤ c ∧ c ≤ 22 := by
  refine ⟨tab ns.length (fun i => (ns.getD i 0) % 23), ?_, tab_len _ _, rfl, ?_⟩
  · unfold law08_Classes_F law08_Classes_T
    have hl := loopW_count (f := fun s : List Int × List Int × Int => (law08_Classes_L3 s.1 s.2.1 s.2.2).run) ns.length
      (fun k => (ns, tab k (fun i => (ns.getD i 0) % 23), (k : Int))) (r := tab ns.length (fun i => (ns.getD i 0) % 23)) ?_ ?_
    · rw [show ((0 : Nat) : Int) = 0 from rfl, tab_zero] at hl
      rw [Tr.run_bnd_some hl]
      rfl
    · intro k hk
      dsimp only
      unfold law08_Classes_L3
      have hm := h8 (ns.getD k 0) (by simp [List.getD, hk])
      rw [Tr.run_br, if_pos (by simp; omega), Tr.run_bnd_some (idx_getD 0 rfl hk), Tr.run_bnd_some (app_eq (by simp only [tab_len, List.length_cons, List.length_nil]; omega)), Tr.run_pure, Int.tmod_eq_emod_of_nonneg hm.1,
        wrap64 (by omega) (by omega), tab_succ k (fun i => (ns.getD i 0) % 23)]
      rfl
    · dsimp only
      unfold law08_Classes_L3
      rw [Tr.run_br, if_neg (by simp), Tr.run_pure]
  · intro c hc
    simp only [tab, List.mem_map] at hc
    obtain ⟨i, _, rfl⟩ := hc
    omega

theorem widths_F (ns : List Int) (hn : ns.length ≤ 2097152) (h8 : ∀ n ∈ ns, 0 ≤ n ∧ n ≤ 255) : law22_Widths_F ns = some (tab ns.length fun i => ns.getD i 0 % 3) := by
  unfold law22_Widths_F law22_Widths_T
  refine Post.run (Post.bnd (count (L := fun s : List Int × List Int × Int => law22_Widths_L3 s.1 s.2.1 s.2.2) ns.length (fun k => (ns, tab k fun i => ns.getD i 0 % 3, (k : Int))) rfl (fun k hk => ?_) ?_) (Post.pure rfl))
  · have hm : 0 ≤ ns.getD k 0 ∧ ns.getD k 0 ≤ 255 := by
      refine h8 _ ?_
      simp [List.getD, hk]
    dsimp only
    unfold law22_Widths_L3
    refine Post.brT (by rw [decide_eq_true_eq]; omega) (Post.idx 0 k rfl hk (Post.bnd (app_eq (by rw [tab_len]; simp; omega)) (Post.pure ?_)))
    rw [Int.tmod_eq_emod_of_nonneg hm.1, wrap64 (by omega) (by omega), wrap_succ (by omega), ← tab_succ]
  · dsimp only
    unfold law22_Widths_L3
    exact Post.brF (by simp) (Post.pure rfl)

/-! ### what the document lays -/
theorem lmark_F {t : Li} (ht : t.Ok) {x : Int} (hx : 0 ≤ x ∧ x < t.n) : law26_mark_F t.L t.C t.W x = some (t.mark x) := by
  have h1 := ht.hL
  have h2 := ht.hC
  have h3 := ht.hW
  have pos : ∀ {a : Int}, a.tmod 2 = 1 → a > 0 := fun {a} h => by
    by_cases hp : a > 0
    · exact hp
    · have h1 : (-a).tmod 2 = -(a.tmod 2) := Int.neg_tmod ..
      rw [h, Int.tmod_eq_emod_of_nonneg (by omega)] at h1
      omega
  unfold law26_mark_F law26_mark_T Li.mark Li.lv
  refine Post.run (Post.idx 0 x.toNat (by omega) (by omega) (Post.br (fun c => Post.idx 0 x.toNat (by omega) (by omega) (Post.br (fun c2 => Post.idx 0 x.toNat (by omega) (by omega) (Post.pure ?_)) (fun c2 => Post.pure ?_))) (fun c => Post.pure ?_)))
  · rw [c, c2, decide_eq_true (pos (by simpa using c))]; rfl
  · rw [c, c2, decide_eq_true (pos (by simpa using c))]; rfl
  · rw [c]; simp
abbrev W7 := List Int × List Int × List Int × List Int × List Int × Int × Int
theorem scanW {t : Li} (ht : t.Ok) {out : List Int} {k : Int} : ∀ {B A : List Int}, t.V (A ++ B) → (A ++ B).length ≤ 4194304 → ∃ run rest, B = run ++ rest ∧ (∀ x ∈ run, t.mark x = true) ∧ (rest = [] ∨ ∃ x r, rest = x :: r ∧ t.mark x = false) ∧
    loopW (fun s : W7 => (law26_want_L11 s.1 s.2.1 s.2.2.1 s.2.2.2.1 s.2.2.2.2.1 s.2.2.2.2.2.1 s.2.2.2.2.2.2).run) (A ++ B, t.L, t.C, t.W, out, k, (A.length : Int)) = some (A ++ B, t.L, t.C, t.W, out, k, ((A.length + run.length : Nat) : Int))
  | [], A, _, hn => by
    refine ⟨[], [], rfl, (fun x hx => by cases hx), .inl rfl, loopW_done (Post.run ?_)⟩
    dsimp only
    unfold law26_want_L11
    refine Post.brF (by simp) (Post.pure rfl)
  | x :: B, A, hv, hn => by
    have hx := lmark_F ht (hv x (by simp))
    have hlen : (A ++ x :: B).length = A.length + (B.length + 1) := by simp
    cases h : t.mark x with
    | false =>
      refine ⟨[], x :: B, rfl, (fun x hx => by cases hx), .inr ⟨x, B, rfl, h⟩, loopW_done (Post.run ?_)⟩
      dsimp only
      unfold law26_want_L11
      refine Post.brT (by rw [decide_eq_true_eq]; omega) (Post.bnd (idx_mid rfl) (Post.bnd hx (Post.brF h (Post.pure rfl))))
    | true =>
      have e : A ++ x :: B = (A ++ [x]) ++ B := by simp
      obtain ⟨run, rest, h1, h2, h3, h4⟩ := scanW ht (out := out) (k := k) (B := B) (A := A ++ [x]) (by rw [← e]; exact hv) (by rw [← e]; exact hn)
      refine ⟨x :: run, rest, by rw [h1]; rfl, fun y hy => ?_, h3, loopW_next (Post.run ?_) (h4.trans ?_)⟩
      · rcases List.mem_cons.1 hy with rfl | hy
        · exact h
        · exact h2 y hy
      · dsimp only
        unfold law26_want_L11
        refine Post.brT (by rw [decide_eq_true_eq]; omega) (Post.bnd (idx_mid rfl) (Post.bnd hx (Post.brT h (Post.pure ?_))))
        rw [wrap_succ (by omega), e]; simp
      · rw [← e]
        congr 7
        simp; omega
theorem down {v L C W : List Int} {A Z r : List Int} {e : Int} (hv : v = A ++ (Z ++ r)) (hl : v.length ≤ 4194304) : ∀ (j : Nat) (out : List Int), j ≤ Z.length → out.length + j ≤ 4194304 →
    loopW (fun s : List Int × List Int × List Int × List Int × List Int × Int × Int × Int => (law26_want_L18 s.1 s.2.1 s.2.2.1 s.2.2.2.1 s.2.2.2.2.1 s.2.2.2.2.2.1 s.2.2.2.2.2.2.1 s.2.2.2.2.2.2.2).run) (v, L, C, W, out, (A.length : Int), e, ((A.length + j : Nat) : Int) - 1) = some (v, L, C, W, out ++ (Z.take j).reverse, e)
  | 0, out, _, _ => by
    refine loopW_done (Post.run ?_)
    dsimp only
    unfold law26_want_L18
    refine Post.brF (decide_eq_false (by omega)) (Post.pure ?_)
    simp
  | j + 1, out, hj, ho => by
    have hlen : v.length = A.length + (Z.length + r.length) := by rw [hv]; simp
    have hg : v.getD (A.length + j) 0 = Z.getD j 0 := by
      rw [hv]
      simp only [List.getD]
      rw [List.getElem?_append_right (by omega), Nat.add_sub_cancel_left, List.getElem?_append_left (by omega)]
    have ih := down (L := L) (C := C) (W := W) (e := e) hv hl j (out ++ [Z.getD j 0]) (by omega) (by rw [List.length_append, List.length_singleton]; omega)
    refine loopW_next (Post.run ?_) (ih.trans (congrArg some ?_))
    · dsimp only
      unfold law26_want_L18
      refine Post.brT (decide_eq_true (by omega)) (Post.idx 0 (A.length + j) (by omega) (by omega) ?_)
      rw [hg]
      refine Post.bnd (app_eq (by rw [List.length_singleton]; omega)) (Post.pure ?_)
      have : IntKind.i64.wrap (((A.length + (j + 1) : Nat) : Int) - 1 - 1) = ((A.length + j : Nat) : Int) - 1 := by rw [wrap64 (by omega) (by omega)]; omega
      rw [this]
    · have : Z.take (j + 1) = Z.take j ++ [Z.getD j 0] := by
        rw [List.take_succ]
        congr 1
        simp [List.getD, show j < Z.length by omega]
      rw [this, List.reverse_append, List.append_assoc]
      rfl
abbrev W6 := List Int × List Int × List Int × List Int × List Int × Int
theorem want_loop {t : Li} (ht : t.Ok) : ∀ (m : Nat) (B A out : List Int), B.length ≤ m → t.V (A ++ B) → (A ++ B).length ≤ 4194304 → out.length = A.length →
    loopW (fun s : W6 => (law26_want_L9 s.1 s.2.1 s.2.2.1 s.2.2.2.1 s.2.2.2.2.1 s.2.2.2.2.2).run) (A ++ B, t.L, t.C, t.W, out, (A.length : Int)) = some (out ++ fx t.mark t.lv [] B) := by
  intro m
  have hL := ht.hL
  induction m with
  | zero =>
    intro B A out hm hv hn ho
    have : B = [] := List.length_eq_zero_iff.1 (by omega)
    subst this
    refine loopW_done (Post.run ?_)
    dsimp only
    unfold law26_want_L9
    exact Post.brF (by simp) (Post.pure (by simp [fx]))
  | succ m ih =>
    intro B A out hm hv hn ho
    cases B with
    | nil =>
      refine loopW_done (Post.run ?_)
      dsimp only
      unfold law26_want_L9
      exact Post.brF (by simp) (Post.pure (by simp [fx]))
    | cons b B =>
      obtain ⟨run, rest, h1, h2, h3, h4⟩ := scanW ht (out := out) (k := (A.length : Int)) (B := b :: B) (A := A) hv hn
      rw [h1] at hv hn hm h4 ⊢
      have hl : (A ++ (run ++ rest)).length = A.length + (run.length + rest.length) := by simp
      have h0 : 0 < (run ++ rest).length := by rw [← h1]; simp
      rw [List.length_append] at h0
      have one : ∀ {x : Int} {r out2 A2 : List Int}, t.mark x = false → r.length ≤ m → A ++ (run ++ rest) = A2 ++ x :: r → out2.length = A2.length → loopW (fun s : W6 => (law26_want_L9 s.1 s.2.1 s.2.2.1 s.2.2.2.1 s.2.2.2.2.1 s.2.2.2.2.2).run) (A ++ (run ++ rest), t.L, t.C, t.W, out2, (A2.length : Int)) = some (out2 ++ x :: fx t.mark t.lv [] r) := fun {x r out2 A2} hx hr he ho2 => by
        rw [he] at hv hn ⊢
        have hlen2 : (A2 ++ x :: r).length = A2.length + (r.length + 1) := by simp
        have hmk := lmark_F ht (hv x (by simp))
        have hstop : loopW (fun s : W7 => (law26_want_L11 s.1 s.2.1 s.2.2.1 s.2.2.2.1 s.2.2.2.2.1 s.2.2.2.2.2.1 s.2.2.2.2.2.2).run) (A2 ++ x :: r, t.L, t.C, t.W, out2, (A2.length : Int), (A2.length : Int)) = some (A2 ++ x :: r, t.L, t.C, t.W, out2, (A2.length : Int), (A2.length : Int)) := loopW_done (Post.run (by
          dsimp only
          unfold law26_want_L11
          exact Post.brT (decide_eq_true (by omega)) (Post.bnd (idx_mid rfl) (Post.bnd hmk (Post.brF hx (Post.pure rfl))))))
        have e : A2 ++ x :: r = (A2 ++ [x]) ++ r := by simp
        have ih2 := ih r (A2 ++ [x]) (out2 ++ [x]) hr (by rw [← e]; exact hv) (by rw [← e]; exact hn) (by rw [List.length_append, List.length_append, ho2])
        rw [← e, List.append_assoc] at ih2
        refine loopW_next (Post.run ?_) ih2
        dsimp only
        unfold law26_want_L9
        refine Post.brT (decide_eq_true (by omega)) (Post.bnd hstop (Post.brT (by simp) (Post.bnd (idx_mid rfl) (Post.bnd (app_eq (by show out2.length + 1 ≤ 17592186044416; omega)) (Post.pure ?_)))))
        rw [wrap_succ (k := A2.length) (by omega)]
        simp
      rcases h3 with rfl | ⟨x, r, rfl, hx⟩
      · rw [List.append_nil] at *
        have hrun : 0 < run.length := by rw [List.length_nil] at h0; omega
        have hcut : cut (A ++ run) (A.length : Int) ((A.length + run.length : Nat) : Int) = some run := by
          rw [cut_drop rfl rfl (by omega) (by rw [hl, List.length_nil]; omega), List.take_of_length_le (by rw [hl, List.length_nil]; omega)]
          simp
        have hfx : fx t.mark t.lv [] run = run := by
          have := fx_run (p := t.mark) (lv := t.lv) (acc := []) (B := []) h2
          rw [List.append_nil, List.nil_append] at this
          rw [this]; rfl
        refine loopW_next (Post.run ?_) (loopW_done (s := (A ++ run, t.L, t.C, t.W, out ++ run, ((A.length + run.length : Nat) : Int))) (Post.run ?_))
        · dsimp only
          unfold law26_want_L9
          refine Post.brT (decide_eq_true (by rw [hl, List.length_nil]; omega)) (Post.bnd h4 (Post.brF ?_ (Post.brF (decide_eq_false (by dsimp only; rw [hl, List.length_nil]; omega)) (Post.bnd hcut (Post.bnd (app_eq (by rw [hl, List.length_nil] at hn; show out.length + run.length ≤ 17592186044416; omega)) (Post.pure rfl))))))
          simp only [beq_eq_false_iff_ne, ne_eq]
          omega
        · dsimp only
          unfold law26_want_L9
          exact Post.brF (decide_eq_false (by rw [hl, List.length_nil]; omega)) (Post.pure (by rw [hfx]))
      · have hxv := hv x (by simp)
        have hrm : r.length ≤ m := by simp at hm; omega
        by_cases hr0 : run = []
        · subst hr0
          rw [List.nil_append] at *
          rw [one hx hrm rfl ho, fx_stop hx]
          simp
        · have hrun : 0 < run.length := List.length_pos_iff.2 hr0
          have e0 : A ++ (run ++ x :: r) = (A ++ run) ++ x :: r := by simp
          have i1 : idx (A ++ (run ++ x :: r)) ((A.length + run.length : Nat) : Int) = some x := by rw [e0]; exact idx_mid (by simp)
          have i2 : idx t.L x = some (t.lv x) := idx_getD 0 (by omega) (by omega)
          have hh : ∃ y s, run ++ x :: r = y :: s ∧ (run ++ [x]).headD 0 = y := by
            cases run with
            | nil => exact absurd rfl hr0
            | cons y run => exact ⟨y, run ++ x :: r, rfl, rfl⟩
          obtain ⟨y, s, hy1, hy2⟩ := hh
          have hyv := hv y (by rw [hy1]; simp)
          have i3 : idx (A ++ (run ++ x :: r)) (A.length : Int) = some y := by rw [hy1]; exact idx_mid rfl
          have i4 : idx t.L y = some (t.lv y) := idx_getD 0 (by omega) (by omega)
          have hfx : fx t.mark t.lv [] (run ++ x :: r) = (if t.lv x = t.lv y then x :: run.reverse else run ++ [x]) ++ fx t.mark t.lv [] r := by
            rw [fx_run h2, List.nil_append, fx_stop hx, hy2]
          have hneq : (((A.length + run.length : Nat) : Int) == (A.length : Int)) = false := by simp only [beq_eq_false_iff_ne, ne_eq]; omega
          rw [hl, List.length_cons] at hn
          rw [hfx]
          by_cases c : t.lv x = t.lv y
          · rw [if_pos c]
            have hdn := down (v := A ++ (run ++ x :: r)) (L := t.L) (C := t.C) (W := t.W) (A := A) (Z := run ++ [x]) (r := r) (e := ((A.length + run.length : Nat) : Int)) (by simp) (by rw [hl, List.length_cons]; omega) (run.length + 1) out (by simp) (by omega)
            have hi : ((A.length + (run.length + 1) : Nat) : Int) - 1 = ((A.length + run.length : Nat) : Int) := by omega
            rw [hi, List.take_of_length_le (by simp), List.reverse_append] at hdn
            have hdn : _ = some (A ++ (run ++ x :: r), t.L, t.C, t.W, out ++ x :: run.reverse, ((A.length + run.length : Nat) : Int)) := hdn
            have e3 : A ++ (run ++ x :: r) = (A ++ (run ++ [x])) ++ r := by simp
            have ih2 := ih r (A ++ (run ++ [x])) (out ++ x :: run.reverse) hrm (by rw [← e3]; exact hv) (by rw [← e3, hl, List.length_cons]; omega) (by simp [ho])
            rw [← e3, show (((A ++ (run ++ [x])).length : Nat) : Int) = ((A.length + run.length + 1 : Nat) : Int) by simp; omega, List.append_assoc] at ih2
            refine loopW_next (Post.run ?_) ih2
            dsimp only
            unfold law26_want_L9
            refine Post.brT (decide_eq_true (by rw [hl, List.length_cons]; omega)) (Post.bnd h4 (Post.brF hneq (Post.brT (decide_eq_true (by dsimp only; rw [hl, List.length_cons]; omega)) (Post.bnd i1 (Post.bnd i2 (Post.bnd i3 (Post.bnd i4 (Post.brT (by simpa using c) (Post.bnd hdn (Post.pure ?_))))))))))
            rw [wrap_succ (k := A.length + run.length) (by omega)]
          · rw [if_neg c]
            have hcut : cut (A ++ (run ++ x :: r)) (A.length : Int) ((A.length + run.length : Nat) : Int) = some run := by
              rw [cut_drop rfl rfl (by omega) (by rw [hl]; omega)]
              simp [List.take_append]
            have h5 := one (x := x) (r := r) (out2 := out ++ run) (A2 := A ++ run) hx hrm e0 (by rw [List.length_append, List.length_append, ho])
            rw [List.length_append] at h5
            have h6 : out ++ run ++ x :: fx t.mark t.lv [] r = out ++ ((run ++ [x]) ++ fx t.mark t.lv [] r) := by simp
            rw [h6] at h5
            refine loopW_next (Post.run ?_) h5
            dsimp only
            unfold law26_want_L9
            exact Post.brT (decide_eq_true (by rw [hl, List.length_cons]; omega)) (Post.bnd h4 (Post.brF hneq (Post.brT (decide_eq_true (by dsimp only; rw [hl, List.length_cons]; omega)) (Post.bnd i1 (Post.bnd i2 (Post.bnd i3 (Post.bnd i4 (Post.brF (by simpa using c) (Post.bnd hcut (Post.bnd (app_eq (by show out.length + run.length ≤ 17592186044416; omega)) (Post.pure rfl)))))))))))

/-! ### both -/
/-- the places, as both have them -/
def res (t : Li) (v : List Int) : List Int := if (v.all fun x => decide (0 ≤ x ∧ x < t.n)) = true then fx t.mark t.lv [] v else v
theorem chk {L C W v : List Int} {n : Nat} : ∀ (m k : Nat), v.length ≤ k + m → k ≤ v.length → (∀ j, j < k → 0 ≤ v.getD j 0 ∧ v.getD j 0 < (n : Int)) → v.length ≤ 4194304 →
    ((∀ x ∈ v, 0 ≤ x ∧ x < (n : Int)) ∧ loopW (fun s : List Int × List Int × List Int × List Int × Int × List Int × Int × Int => (marks_Fix_L4 s.1 s.2.1 s.2.2.1 s.2.2.2.1 s.2.2.2.2.1 s.2.2.2.2.2.1 s.2.2.2.2.2.2.1 s.2.2.2.2.2.2.2).run) (L, C, W, v, (n : Int), v, (v.length : Int), (k : Int)) = some (.inl (L, C, W, v)) ∧
      loopW (fun s : List Int × List Int × List Int × List Int × Int × Int => (law26_want_L4 s.1 s.2.1 s.2.2.1 s.2.2.2.1 s.2.2.2.2.1 s.2.2.2.2.2).run) (v, L, C, W, (n : Int), (k : Int)) = some (.inl (v, L, C, W))) ∨
    ((¬ ∀ x ∈ v, 0 ≤ x ∧ x < (n : Int)) ∧ loopW (fun s : List Int × List Int × List Int × List Int × Int × List Int × Int × Int => (marks_Fix_L4 s.1 s.2.1 s.2.2.1 s.2.2.2.1 s.2.2.2.2.1 s.2.2.2.2.2.1 s.2.2.2.2.2.2.1 s.2.2.2.2.2.2.2).run) (L, C, W, v, (n : Int), v, (v.length : Int), (k : Int)) = some (.inr v) ∧
      loopW (fun s : List Int × List Int × List Int × List Int × Int × Int => (law26_want_L4 s.1 s.2.1 s.2.2.1 s.2.2.2.1 s.2.2.2.2.1 s.2.2.2.2.2).run) (v, L, C, W, (n : Int), (k : Int)) = some (.inr v))
  | 0, k, h, hk, hp, hl => by
    refine .inl ⟨fun x hx => ?_, loopW_done (Post.run ?_), loopW_done (Post.run ?_)⟩
    · obtain ⟨j, hj, rfl⟩ := List.getElem_of_mem hx
      have := hp j (by omega)
      rwa [show v.getD j 0 = v[j] by simp [List.getD, hj]] at this
    · dsimp only
      unfold marks_Fix_L4
      exact Post.brF (decide_eq_false (by omega)) (Post.pure rfl)
    · dsimp only
      unfold law26_want_L4
      exact Post.brF (decide_eq_false (by omega)) (Post.pure rfl)
  | m + 1, k, h, hk, hp, hl => by
    by_cases e : k = v.length
    · exact chk m k (by omega) hk hp hl
    · have hkl : k < v.length := by omega
      have hmem : v.getD k 0 ∈ v := by
        rw [show v.getD k 0 = v[k] by simp [List.getD, hkl]]
        exact List.getElem_mem hkl
      by_cases c1 : v.getD k 0 < 0
      · refine .inr ⟨fun hall => by have := hall _ hmem; omega, loopW_done (Post.run ?_), loopW_done (Post.run ?_)⟩
        · dsimp only
          unfold marks_Fix_L4
          exact Post.brT (decide_eq_true (by omega)) (Post.idx 0 k rfl hkl (Post.brT (decide_eq_true c1) (Post.pure rfl)))
        · dsimp only
          unfold law26_want_L4
          exact Post.brT (decide_eq_true (by omega)) (Post.idx 0 k rfl hkl (Post.brT (decide_eq_true c1) (Post.pure rfl)))
      · by_cases c2 : v.getD k 0 ≥ (n : Int)
        · refine .inr ⟨fun hall => by have := hall _ hmem; omega, loopW_done (Post.run ?_), loopW_done (Post.run ?_)⟩
          · dsimp only
            unfold marks_Fix_L4
            exact Post.brT (decide_eq_true (by omega)) (Post.idx 0 k rfl hkl (Post.brF (decide_eq_false c1) (Post.brT (decide_eq_true c2) (Post.pure rfl))))
          · dsimp only
            unfold law26_want_L4
            exact Post.brT (decide_eq_true (by omega)) (Post.idx 0 k rfl hkl (Post.brF (decide_eq_false c1) (Post.idx 0 k rfl hkl (Post.brT (decide_eq_true c2) (Post.pure rfl)))))
        · have ih := chk (L := L) (C := C) (W := W) (v := v) (n := n) m (k + 1) (by omega) (by omega) (fun j hj => by
            by_cases ej : j = k
            · subst ej; omega
            · exact hp j (by omega)) hl
          have s1 : Post (marks_Fix_L4 L C W v (n : Int) v (v.length : Int) (k : Int)) (· = .next (L, C, W, v, (n : Int), v, (v.length : Int), ((k + 1 : Nat) : Int))) := by
            unfold marks_Fix_L4
            refine Post.brT (decide_eq_true (by omega)) (Post.idx 0 k rfl hkl (Post.brF (decide_eq_false c1) (Post.brF (decide_eq_false c2) (Post.pure ?_))))
            rw [wrap_succ (by omega)]
          have s2 : Post (law26_want_L4 v L C W (n : Int) (k : Int)) (· = .next (v, L, C, W, (n : Int), ((k + 1 : Nat) : Int))) := by
            unfold law26_want_L4
            refine Post.brT (decide_eq_true (by omega)) (Post.idx 0 k rfl hkl (Post.brF (decide_eq_false c1) (Post.idx 0 k rfl hkl (Post.brF (decide_eq_false c2) (Post.pure ?_)))))
            rw [wrap_succ (by omega)]
          rcases ih with ⟨g1, g2, g3⟩ | ⟨g1, g2, g3⟩
          · exact .inl ⟨g1, loopW_next (Post.run s1) g2, loopW_next (Post.run s2) g3⟩
          · exact .inr ⟨g1, loopW_next (Post.run s1) g2, loopW_next (Post.run s2) g3⟩
theorem both {L C W : List Int} {n : Nat} (hn : (n : Int) = if (W.length : Int) < (if (C.length : Int) < (L.length : Int) then (C.length : Int) else (L.length : Int)) then (W.length : Int) else (if (C.length : Int) < (L.length : Int) then (C.length : Int) else (L.length : Int)))
    {v : List Int} (hl : v.length ≤ 4194304) : ∃ r : List Int, marks_Fix_F v L C W = some r ∧ law26_want_F v L C W = some (r, ()) ∧ r.length ≤ 4194304 := by
  have ok : (Li.mk L C W n).Ok := by
    have : n ≤ L.length ∧ n ≤ C.length ∧ n ≤ W.length := by
      split at hn <;> split at hn <;> omega
    exact ⟨this.1, this.2.1, this.2.2⟩
  have fxl : ∀ (p : Int → Bool) (lv : Int → Int) (B acc : List Int), (fx p lv acc B).length = acc.length + B.length := fun p lv B => by
    induction B with
    | nil => intro acc; simp [fx]
    | cons x B ih =>
      intro acc
      show (if p x = true then fx p lv (acc ++ [x]) B else (if lv x = lv ((acc ++ [x]).headD 0) then x :: acc.reverse else acc ++ [x]) ++ fx p lv [] B).length = _
      split
      · rw [ih]; simp; omega
      · rw [List.length_append, ih]
        split <;> simp <;> omega
  rcases chk (L := L) (C := C) (W := W) (n := n) v.length 0 (by omega) (by omega) (fun j hj => by omega) hl with ⟨g1, g2, g3⟩ | ⟨g1, g2, g3⟩
  · refine ⟨fx (Li.mk L C W n).mark (Li.mk L C W n).lv [] v, fix_F hn g1 hl, ?_, by rw [fxl]; simpa using hl⟩
    unfold law26_want_F law26_want_T
    rw [← hn]
    exact Post.run (Post.altL g3 (Post.bnd (want_loop ok v.length v [] [] (Nat.le_refl _) g1 hl rfl) (Post.pure rfl)))
  · refine ⟨v, ?_, ?_, hl⟩
    · unfold marks_Fix_F marks_Fix_T
      rw [← hn]
      exact Post.run (Post.bnd (clone_F hl) (Post.altR g2 (Post.pure rfl)))
    · unfold law26_want_F law26_want_T
      rw [← hn]
      exact Post.run (Post.altR g3 (Post.pure rfl))
theorem least3 (a b c : Nat) : ∃ n : Nat, (n : Int) = (if (c : Int) < (if (b : Int) < (a : Int) then (b : Int) else (a : Int)) then (c : Int) else (if (b : Int) < (a : Int) then (b : Int) else (a : Int))) ∧ n ≤ a ∧ n ≤ b ∧ n ≤ c := by
  refine ⟨min (min a b) c, ?_, by omega, by omega, by omega⟩
  split <;> split <;> omega
theorem marksRaw_F (v ls ns ws : List Int) (h0 : v.length ≤ 1048576) (h1 : ls.length ≤ 1048576) (h2 : ns.length ≤ 1048576) (h3 : ws.length ≤ 1048576) (w1 : ∀ n ∈ ls, 0 ≤ n ∧ n ≤ 255) (w2 : ∀ n ∈ ns, 0 ≤ n ∧ n ≤ 255) (w3 : ∀ n ∈ ws, 0 ≤ n ∧ n ≤ 255) : law26_MarksRaw_F v ls ns ws = some true := by
  obtain ⟨cs, hc, hcl, _, _⟩ := classes_F ns (by omega) w2
  unfold law26_MarksRaw_F law26_MarksRaw_T
  obtain ⟨n, hn, _⟩ := least3 (tab ls.length (lev ls)).length cs.length (tab ws.length fun i => ws.getD i 0 % 3).length
  obtain ⟨r, hr1, hr2, hr3⟩ := both hn (v := v) (by omega)
  exact Post.run (Post.bnd awake26 (Post.brF rfl (Post.bnd (levels_F ls (by omega) w1) (Post.bnd hc (Post.bnd (widths_F ws (by omega) w3) (Post.bnd hr1 (Post.bnd hr2 (Post.bnd (same_F r hr3) (Post.pure rfl)))))))))
theorem marksFix_F (ls ns ws : List Int) (h1 : ls.length ≤ 1048576) (h2 : ns.length ≤ 1048576) (h3 : ws.length ≤ 1048576) (w1 : ∀ n ∈ ls, 0 ≤ n ∧ n ≤ 255) (w2 : ∀ n ∈ ns, 0 ≤ n ∧ n ≤ 255) (w3 : ∀ n ∈ ws, 0 ≤ n ∧ n ≤ 255) : law26_MarksFix_F ls ns ws = some true := by
  obtain ⟨cs, hc, hcl, _, _⟩ := classes_F ns (by omega) w2
  unfold law26_MarksFix_F law26_MarksFix_T
  refine Post.run (Post.bnd awake26 (Post.brF rfl (Post.bnd (levels_F ls (by omega) w1) (Post.bnd hc (Post.bnd (widths_F ws (by omega) w3) ?_)))))
  obtain ⟨n, hn, n1, n2, n3⟩ := least3 (tab ls.length (lev ls)).length cs.length (tab ws.length fun i => ws.getD i 0 % 3).length
  have hlL : (tab ls.length (lev ls)).length = ls.length := tab_len _ _
  generalize tab ls.length (lev ls) = L at *
  generalize (tab ws.length fun i => ws.getD i 0 % 3) = W at *
  rw [← hn]
  have c1 : cut L 0 (n : Int) = some (L.take n) := cut_take rfl n1
  have c2 : cut cs 0 (n : Int) = some (cs.take n) := cut_take rfl n2
  have c3 : cut W 0 (n : Int) = some (W.take n) := cut_take rfl n3
  have l1 : (L.take n).length = n := by rw [List.length_take]; omega
  have l2 : (cs.take n).length = n := by rw [List.length_take]; omega
  have l3 : (W.take n).length = n := by rw [List.length_take]; omega
  have hvl := vis_len (L.take n)
  obtain ⟨r, hr1, hr2, hr3⟩ := both (L := L.take n) (C := cs.take n) (W := W.take n) (n := n) (by rw [l1, l2, l3]; simp) (v := vis (L.take n)) (by omega)
  refine Post.bnd c1 (Post.bnd (visual_F _ (by omega)) (Post.bnd (app_eq (by simp only [List.length_nil]; omega)) (Post.bnd c1 (Post.bnd c2 (Post.bnd c3 (Post.bnd hr1 ?_))))))
  rw [List.nil_append]
  exact Post.bnd (same_F _ (by omega)) (Post.brT rfl (Post.bnd c1 (Post.bnd c2 (Post.bnd c3 (Post.bnd hr2 (Post.bnd (same_F r hr3) (Post.pure rfl)))))))

theorem marksRaw_all (x : Tys.I [.sl (.int .i64), .sl (.int .u8), .sl (.int .u8), .sl (.int .u8)]) (h : WfAll [.sl (.int .i64), .sl (.int .u8), .sl (.int .u8), .sl (.int .u8)] x) (hb : bulkAll [.sl (.int .i64), .sl (.int .u8), .sl (.int .u8), .sl (.int .u8)] x ≤ 1048576) : law26_MarksRaw_F x.1 x.2.1 x.2.2.1 x.2.2.2.1 = some true := by
  simp only [bulkAll, bulk] at hb
  exact marksRaw_F _ _ _ _ (by omega) (by omega) (by omega) (by omega) (fun n hn => wf_u8 (h.2.1.2 n hn)) (fun n hn => wf_u8 (h.2.2.1.2 n hn)) (fun n hn => wf_u8 (h.2.2.2.1.2 n hn))
theorem marksFix_all (x : Tys.I [.sl (.int .u8), .sl (.int .u8), .sl (.int .u8)]) (h : WfAll [.sl (.int .u8), .sl (.int .u8), .sl (.int .u8)] x) (hb : bulkAll [.sl (.int .u8), .sl (.int .u8), .sl (.int .u8)] x ≤ 1048576) : law26_MarksFix_F x.1 x.2.1 x.2.2.1 = some true := by
  simp only [bulkAll, bulk] at hb
  exact marksFix_F _ _ _ (by omega) (by omega) (by omega) (fun n hn => wf_u8 (h.1.2 n hn)) (fun n hn => wf_u8 (h.2.1.2 n hn)) (fun n hn => wf_u8 (h.2.2.1.2 n hn))

end Go.Proofs.Ytggnnjofbknjjaa
