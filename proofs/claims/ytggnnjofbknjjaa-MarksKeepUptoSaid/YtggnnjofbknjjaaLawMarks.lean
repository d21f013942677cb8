/-
  Marks: what the program brings behind what.
-/
import Derived.Test.YtggnnjofbknjjaaLawVis
namespace Go.Proofs.Ytggnnjofbknjjaa
set_option linter.all false

theorem same_F (a : List Int) (hn : a.length ≤ 4194304) : law25_Same_F a a = some true := by
  unfold law25_Same_F law25_Same_T
  refine Post.run (Post.brF (by simp) (Post.altL (b := ()) (count (L := fun s : List Int × List Int × Int => law25_Same_L4 s.1 s.2.1 s.2.2) a.length (fun k => (a, a, (k : Int))) rfl (fun k hk => ?_) ?_) (Post.pure rfl)))
  · dsimp only
    unfold law25_Same_L4
    refine Post.brT (by rw [decide_eq_true_eq]; omega) (Post.idx 0 k rfl hk (Post.idx 0 k rfl hk (Post.brF (by simp) (Post.pure (by rw [wrap_succ (by omega)])))))
  · dsimp only
    unfold law25_Same_L4
    exact Post.brF (by simp) (Post.pure rfl)

/-- a line's levels, classes and widths -/
structure Li where
  L : List Int
  C : List Int
  W : List Int
  n : Nat
structure Li.Ok (t : Li) : Prop where
  hL : t.n ≤ t.L.length
  hC : t.n ≤ t.C.length
  hW : t.n ≤ t.W.length
def Li.lv (t : Li) (x : Int) : Int := t.L.getD x.toNat 0
def Li.mark (t : Li) (x : Int) : Bool := decide (t.lv x > 0) && ((t.lv x).tmod 2 == 1 && (t.C.getD x.toNat 0 == 8 && t.W.getD x.toNat 0 == 0))
def Li.V (t : Li) (v : List Int) : Prop := ∀ x ∈ v, 0 ≤ x ∧ x < t.n
/-- the places of a line, marks brought behind what they are on; acc: marks that wait -/
def fx (p : Int → Bool) (lv : Int → Int) : List Int → List Int → List Int
  | acc, [] => acc
  | acc, x :: B => if p x = true then fx p lv (acc ++ [x]) B else (if lv x = lv ((acc ++ [x]).headD 0) then x :: acc.reverse else acc ++ [x]) ++ fx p lv [] B
theorem fx_run {p : Int → Bool} {lv : Int → Int} : ∀ {run acc B : List Int}, (∀ x ∈ run, p x = true) → fx p lv acc (run ++ B) = fx p lv (acc ++ run) B
  | [], acc, B, _ => by simp
  | x :: run, acc, B, h => by
    show (if p x = true then fx p lv (acc ++ [x]) (run ++ B) else _) = _
    rw [if_pos (h x (by simp)), fx_run fun y hy => h y (by simp [hy])]
    simp
theorem fx_stop {p : Int → Bool} {lv : Int → Int} {acc B : List Int} {x : Int} (h : p x = false) : fx p lv acc (x :: B) = (if lv x = lv ((acc ++ [x]).headD 0) then x :: acc.reverse else acc ++ [x]) ++ fx p lv [] B := by
  show (if p x = true then _ else _) = _
  rw [if_neg (by simp [h])]
theorem fx_none {p : Int → Bool} {lv : Int → Int} : ∀ {B : List Int}, (∀ x ∈ B, p x = false) → fx p lv [] B = B
  | [], _ => rfl
  | x :: B, h => by
    rw [fx_stop (h x (by simp)), fx_none (B := B) fun y hy => h y (by simp [hy])]
    simp
theorem mark_F {t : Li} (ht : t.Ok) {x : Int} (hx : 0 ≤ x ∧ x < t.n) : marks_Fix_1_F x t.L t.C t.W = some (t.mark x) := by
  have h1 := ht.hL
  have h2 := ht.hC
  have h3 := ht.hW
  unfold marks_Fix_1_F marks_Fix_1_T Li.mark Li.lv
  refine Post.run (Post.idx 0 x.toNat (by omega) (by omega) (Post.br (fun c => Post.idx 0 x.toNat (by omega) (by omega) (Post.br (fun c2 => Post.idx 0 x.toNat (by omega) (by omega) (Post.br (fun c3 => Post.idx 0 x.toNat (by omega) (by omega) (Post.pure ?_)) (fun c3 => Post.pure ?_))) (fun c2 => Post.pure ?_))) (fun c => Post.pure ?_)))
  · rw [c, c2, c3]; rfl
  · rw [c, c2, c3]; rfl
  · rw [c, c2]; rfl
  · rw [c]; rfl

theorem scanM {t : Li} (ht : t.Ok) {f : Int} : ∀ {B A : List Int}, t.V (A ++ B) → (A ++ B).length ≤ 4194304 → ∃ run rest, B = run ++ rest ∧ (∀ x ∈ run, t.mark x = true) ∧ (rest = [] ∨ ∃ x r, rest = x :: r ∧ t.mark x = false) ∧
    loopW (fun s : List Int × List Int × (List Int × List Int × List Int) × Int × Int => (marks_Fix_L13 s.1 s.2.1 s.2.2.1 s.2.2.2.1 s.2.2.2.2).run) (t.L, A ++ B, (t.L, t.C, t.W), f, (A.length : Int)) = some (t.L, A ++ B, (t.L, t.C, t.W), f, ((A.length + run.length : Nat) : Int))
  | [], A, _, hn => by
    refine ⟨[], [], rfl, (fun x hx => by cases hx), .inl rfl, loopW_done (Post.run ?_)⟩
    dsimp only
    unfold marks_Fix_L13
    refine Post.brF (by simp) (Post.pure rfl)
  | x :: B, A, hv, hn => by
    have hx := mark_F ht (hv x (by simp))
    have hlen : (A ++ x :: B).length = A.length + (B.length + 1) := by simp
    cases h : t.mark x with
    | false =>
      refine ⟨[], x :: B, rfl, (fun x hx => by cases hx), .inr ⟨x, B, rfl, h⟩, loopW_done (Post.run ?_)⟩
      dsimp only
      unfold marks_Fix_L13
      refine Post.brT (by rw [decide_eq_true_eq]; omega) (Post.bnd (idx_mid rfl) (Post.bnd hx (Post.brF h (Post.pure rfl))))
    | true =>
      have e : A ++ x :: B = (A ++ [x]) ++ B := by simp
      obtain ⟨run, rest, h1, h2, h3, h4⟩ := scanM ht (f := f) (B := B) (A := A ++ [x]) (by rw [← e]; exact hv) (by rw [← e]; exact hn)
      refine ⟨x :: run, rest, by rw [h1]; rfl, fun y hy => ?_, h3, loopW_next (Post.run ?_) (h4.trans ?_)⟩
      · rcases List.mem_cons.1 hy with rfl | hy
        · exact h
        · exact h2 y hy
      · dsimp only
        unfold marks_Fix_L13
        refine Post.brT (by rw [decide_eq_true_eq]; omega) (Post.bnd (idx_mid rfl) (Post.bnd hx (Post.brT h (Post.pure ?_))))
        rw [wrap_succ (by omega), e]; simp
      · rw [← e]
        congr 5
        simp; omega
theorem fix_loop {t : Li} (ht : t.Ok) : ∀ (m : Nat) (B A : List Int), B.length ≤ m → t.V (A ++ B) → (A ++ B).length ≤ 4194304 →
    loopW (fun s : List Int × List Int × (List Int × List Int × List Int) × Int => (marks_Fix_L11 s.1 s.2.1 s.2.2.1 s.2.2.2).run) (t.L, A ++ B, (t.L, t.C, t.W), (A.length : Int)) = some (A ++ fx t.mark t.lv [] B) := by
  intro m
  have hL := ht.hL
  induction m with
  | zero =>
    intro B A hm hv hn
    have : B = [] := List.length_eq_zero_iff.1 (by omega)
    subst this
    refine loopW_done (Post.run ?_)
    dsimp only
    unfold marks_Fix_L11
    exact Post.brF (by simp) (Post.pure rfl)
  | succ m ih =>
    intro B A hm hv hn
    cases B with
    | nil =>
      refine loopW_done (Post.run ?_)
      dsimp only
      unfold marks_Fix_L11
      exact Post.brF (by simp) (Post.pure rfl)
    | cons b B =>
      obtain ⟨run, rest, h1, h2, h3, h4⟩ := scanM ht (f := (A.length : Int)) (B := b :: B) (A := A) hv hn
      rw [h1] at hv hn hm h4 ⊢
      have hl : (A ++ (run ++ rest)).length = A.length + (run.length + rest.length) := by simp
      have h0 : 0 < (run ++ rest).length := by rw [← h1]; simp
      rw [List.length_append] at h0
      have start : ∀ {q : Lap (List Int × List Int × (List Int × List Int × List Int) × Int) (List Int)}, Post (.br (decide (((A.length + run.length : Nat) : Int) < ((A ++ (run ++ rest)).length : Int))) (
          .bnd (idx (A ++ (run ++ rest)) ((A.length + run.length : Nat) : Int)) fun x_7 =>
          .bnd (idx t.L x_7) fun x_8 =>
          .bnd (idx (A ++ (run ++ rest)) (A.length : Int)) fun x_9 =>
          .bnd (idx t.L x_9) fun x_10 =>
          .br (x_8 == x_10) (
            .bnd (cut (A ++ (run ++ rest)) (A.length : Int) (IntKind.i64.wrap (((A.length + run.length : Nat) : Int) + 1))) fun r_11 =>
            .bnd (slices_Reverse___int_int__F (((A ++ (run ++ rest)).drop (((A.length : Int)).toNat)).take r_11.length)) fun c_12 =>
            .pure (.next (t.L, splice' (A ++ (run ++ rest)) (((A.length : Int)).toNat) r_11.length c_12.1, (t.L, t.C, t.W), IntKind.i64.wrap (((A.length + run.length : Nat) : Int) + 1)))) (
            .pure (.next (t.L, A ++ (run ++ rest), (t.L, t.C, t.W), IntKind.i64.wrap (((A.length + run.length : Nat) : Int) + 1))))) (
          .pure (.next (t.L, A ++ (run ++ rest), (t.L, t.C, t.W), IntKind.i64.wrap (((A.length + run.length : Nat) : Int) + 1))))) (· = q) →
          (marks_Fix_L11 t.L (A ++ (run ++ rest)) (t.L, t.C, t.W) (A.length : Int)).run = some q := fun {q} h => by
        refine Post.run ?_
        unfold marks_Fix_L11
        exact Post.brT (decide_eq_true (by rw [hl]; omega)) (Post.bnd h4 h)
      have hw : IntKind.i64.wrap (((A.length + run.length : Nat) : Int) + 1) = ((A.length + run.length + 1 : Nat) : Int) := wrap_succ (by omega)
      rcases h3 with rfl | ⟨x, r, rfl, hx⟩
      · rw [List.append_nil] at *
        refine loopW_next (start (Post.brF (decide_eq_false (by simp)) (Post.pure rfl))) (loopW_done (Post.run ?_))
        dsimp only
        unfold marks_Fix_L11
        rw [hw]
        refine Post.brF (decide_eq_false (by simp; omega)) (Post.pure ?_)
        have := fx_run (p := t.mark) (lv := t.lv) (acc := []) (B := []) h2
        rw [List.append_nil, List.nil_append] at this
        rw [this]
        rfl
      · have hxv := hv x (by simp)
        have e0 : A ++ (run ++ x :: r) = (A ++ run) ++ x :: r := by simp
        have i1 : idx (A ++ (run ++ x :: r)) ((A.length + run.length : Nat) : Int) = some x := by rw [e0]; exact idx_mid (by simp)
        have i2 : idx t.L x = some (t.lv x) := idx_getD 0 (by omega) (by omega)
        have hh : ∃ y s, run ++ x :: r = y :: s ∧ (run ++ [x]).headD 0 = y := by
          cases run with
          | nil => exact ⟨x, r, rfl, rfl⟩
          | cons y run => exact ⟨y, run ++ x :: r, rfl, rfl⟩
        obtain ⟨y, s, hy1, hy2⟩ := hh
        have hyv := hv y (by rw [hy1]; simp)
        have i3 : idx (A ++ (run ++ x :: r)) (A.length : Int) = some y := by rw [hy1]; exact idx_mid rfl
        have i4 : idx t.L y = some (t.lv y) := idx_getD 0 (by omega) (by omega)
        have hfx : fx t.mark t.lv [] (run ++ x :: r) = (if t.lv x = t.lv y then x :: run.reverse else run ++ [x]) ++ fx t.mark t.lv [] r := by
          rw [fx_run h2, List.nil_append, fx_stop hx, hy2]
        have more : ∀ (Z : List Int), Z.length = run.length + 1 → (∀ z ∈ Z, z ∈ run ++ x :: r) → loopW (fun s : List Int × List Int × (List Int × List Int × List Int) × Int => (marks_Fix_L11 s.1 s.2.1 s.2.2.1 s.2.2.2).run) (t.L, A ++ (Z ++ r), (t.L, t.C, t.W), ((A.length + run.length + 1 : Nat) : Int)) = some (A ++ (Z ++ fx t.mark t.lv [] r)) := fun Z hz hm2 => by
          have e : A ++ (Z ++ r) = (A ++ Z) ++ r := by simp
          have e2 : ((A.length + run.length + 1 : Nat) : Int) = ((A ++ Z).length : Int) := by rw [List.length_append, hz]; omega
          rw [e, e2, ih r (A ++ Z) (by simp at hm; omega) (fun q hq => by
            rcases List.mem_append.1 hq with hq | hq
            · rcases List.mem_append.1 hq with hq | hq
              · exact hv q (List.mem_append_left _ hq)
              · exact hv q (List.mem_append_right _ (hm2 q hq))
            · exact hv q (by simp [hq])) (by rw [List.length_append, List.length_append, hz]; simp at hn; omega)]
          simp
        rw [hfx]
        by_cases c : t.lv x = t.lv y
        · rw [if_pos c]
          have hcut : cut (A ++ (run ++ x :: r)) (A.length : Int) (IntKind.i64.wrap (((A.length + run.length : Nat) : Int) + 1)) = some (run ++ [x]) := by
            rw [hw, cut_drop rfl rfl (by omega) (by rw [hl, List.length_cons]; omega)]
            have : A ++ (run ++ x :: r) = (A ++ (run ++ [x])) ++ r := by simp
            rw [this, List.take_append_of_le_length (by simp; omega), List.take_of_length_le (by simp; omega)]
            simp
          have harg : ((A ++ (run ++ x :: r)).drop (A.length : Int).toNat).take (run ++ [x]).length = run ++ [x] := by
            have : A ++ (run ++ x :: r) = A ++ ((run ++ [x]) ++ r) := by simp
            rw [this, toNat_nat, List.drop_left, List.take_left]
          refine loopW_next (start (Post.brT (decide_eq_true (by rw [hl, List.length_cons]; omega)) (Post.bnd i1 (Post.bnd i2 (Post.bnd i3 (Post.bnd i4 (Post.brT (by simpa using c) (Post.bnd hcut (Post.bnd (b := ((run ++ [x]).reverse, ())) (by rw [harg]; exact reverse_F _ (by simp at hn ⊢; omega)) (Post.pure rfl)))))))))) ?_
          dsimp only
          have e3 : A ++ (run ++ x :: r) = A ++ ((run ++ [x]) ++ r) := by simp
          rw [hw, e3, splice_mid A (run ++ [x]) (run ++ [x]).reverse r _ (toNat_nat A.length)]
          have := more (run ++ [x]).reverse (by simp) (fun z hz => by simp at hz ⊢; grind)
          rw [this]
          simp
        · rw [if_neg c]
          refine loopW_next (start (Post.brT (decide_eq_true (by rw [hl, List.length_cons]; omega)) (Post.bnd i1 (Post.bnd i2 (Post.bnd i3 (Post.bnd i4 (Post.brF (by simpa using c) (Post.pure rfl)))))))) ?_
          have e3 : A ++ (run ++ x :: r) = A ++ ((run ++ [x]) ++ r) := by simp
          rw [hw, e3]
          exact more (run ++ [x]) (by simp) (fun z hz => by simp at hz ⊢; grind)

theorem clone_F {xs : List Int} (h : xs.length ≤ 4194304) : slices_Clone___int_int__F xs = some xs := by
  unfold slices_Clone___int_int__F slices_Clone___int_int__T
  exact Post.run (Post.bnd (app_eq (by simp only [List.length_nil]; omega)) (Post.pure rfl))
def mn (a b : Int) : Int := if b < a then b else a
/-- the line's marks, where all places are there -/
theorem fix_F {L C W : List Int} {n : Nat} (hn : (n : Int) = if (W.length : Int) < (if (C.length : Int) < (L.length : Int) then (C.length : Int) else (L.length : Int)) then (W.length : Int) else (if (C.length : Int) < (L.length : Int) then (C.length : Int) else (L.length : Int)))
    {v : List Int} (hv : (Li.mk L C W n).V v) (hl : v.length ≤ 4194304) : marks_Fix_F v L C W = some (fx (Li.mk L C W n).mark (Li.mk L C W n).lv [] v) := by
  unfold marks_Fix_F marks_Fix_T
  rw [← hn]
  have ok : (Li.mk L C W n).Ok := by
    have : n ≤ L.length ∧ n ≤ C.length ∧ n ≤ W.length := by
      split at hn <;> split at hn <;> omega
    exact ⟨this.1, this.2.1, this.2.2⟩
  refine Post.run (Post.bnd (clone_F hl) (Post.altL (count (L := fun s : List Int × List Int × List Int × List Int × Int × List Int × Int × Int => marks_Fix_L4 s.1 s.2.1 s.2.2.1 s.2.2.2.1 s.2.2.2.2.1 s.2.2.2.2.2.1 s.2.2.2.2.2.2.1 s.2.2.2.2.2.2.2) v.length
    (fun k => (L, C, W, v, (n : Int), v, (v.length : Int), ((k : Nat) : Int))) (r := Sum.inl (L, C, W, v)) rfl (fun k hk => ?_) ?_) (Post.bnd (fix_loop ok v.length v [] (Nat.le_refl _) hv hl) (Post.pure rfl))))
  · dsimp only
    unfold marks_Fix_L4
    have hx := hv (v.getD k 0) (by
      rw [show v.getD k 0 = v[k] by simp [List.getD, hk]]
      exact List.getElem_mem hk)
    have hx : 0 ≤ v.getD k 0 ∧ v.getD k 0 < (n : Int) := hx
    refine Post.brT (decide_eq_true (by omega)) (Post.idx 0 k rfl hk (Post.brF (decide_eq_false (by omega)) (Post.brF (decide_eq_false (by omega)) (Post.pure ?_))))
    rw [wrap_succ (by omega)]
  · dsimp only
    unfold marks_Fix_L4
    exact Post.brF (decide_eq_false (by omega)) (Post.pure rfl)
theorem awake26 : law26_awake_F = some true := by
  have h1 : marks_Fix_F [2, 1, 0] [1, 1, 1] [1, 8, 8] [1, 0, 0] = some [0, 1, 2] := by
    rw [fix_F (n := 3) (by decide) (fun x hx => by simp at hx; rcases hx with rfl | rfl | rfl <;> decide) (by decide)]
    exact congrArg some (by decide)
  have h2 : marks_Fix_F [2, 1, 0] [2, 2, 2] [1, 8, 8] [1, 0, 0] = some [2, 1, 0] := by
    rw [fix_F (n := 3) (by decide) (fun x hx => by simp at hx; rcases hx with rfl | rfl | rfl <;> decide) (by decide)]
    exact congrArg some (by decide)
  unfold law26_awake_F law26_awake_T
  exact Post.run (Post.bnd h1 (Post.bnd (same_F _ (by decide)) (Post.brT rfl (Post.bnd h2 (Post.bnd (same_F _ (by decide)) (Post.pure rfl))))))

end Go.Proofs.Ytggnnjofbknjjaa
