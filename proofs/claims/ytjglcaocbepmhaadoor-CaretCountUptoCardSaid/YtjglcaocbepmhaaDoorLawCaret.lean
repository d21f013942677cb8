/-
  The laws of carets return true.
-/
import Derived.Test.YtjglcaocbepmhaaDoorSh
import Derived.Test.YtjglcaocbepmhaaDoorEvMath
namespace Go.Proofs.YtjglcaocbepmhaaDoor
set_option linter.all false

theorem same_F (a : List Int) (hn : a.length ≤ 4194304) : law25_Same_F a a = some true := by
  unfold law25_Same_F law25_Same_T
  refine Post.run (Post.brF (by simp) (Post.altL (b := ()) (count (L := fun s : List Int × List Int × Int => law25_Same_L4 s.1 s.2.1 s.2.2) a.length (fun k => (a, a, (k : Int))) rfl (fun k hk => ?_) ?_) (Post.pure rfl)))
  · dsimp only
    unfold law25_Same_L4
    refine Post.brT (by rw [decide_eq_true_eq]; omega) (Post.idx 0 k rfl hk (Post.idx 0 k rfl hk (Post.brF (by simp) (Post.pure (by rw [wrap_succ (by omega)])))))
  · dsimp only
    unfold law25_Same_L4
    exact Post.brF (by simp) (Post.pure rfl)

/-! ### stops -/
def stp (ws : List Int) : Nat → List Int
  | 0 => []
  | k + 1 => if 0 < ws.getD k 0 then stp ws k ++ [(k : Int)] else stp ws k
theorem stp_len (ws : List Int) : ∀ k, (stp ws k).length ≤ k
  | 0 => Nat.le_refl _
  | k + 1 => by
    have := stp_len ws k
    unfold stp
    split
    · simp; omega
    · omega
def stops (ws : List Int) : List Int := stp ws ws.length ++ [(ws.length : Int)]
theorem stops_len (ws : List Int) : 1 ≤ (stops ws).length ∧ (stops ws).length ≤ ws.length + 1 := by
  have := stp_len ws ws.length
  unfold stops
  simp
  omega
theorem getD_left {xs ys : List Int} {k : Nat} (h : k < xs.length) : (xs ++ ys).getD k 0 = xs.getD k 0 := by simp [List.getD, List.getElem?_append_left h]
theorem getD_last {xs : List Int} {v : Int} : (xs ++ [v]).getD xs.length 0 = v := by simp [List.getD]
theorem stp_rise (ws : List Int) : ∀ k, (∀ j, j < (stp ws k).length → 0 ≤ (stp ws k).getD j 0 ∧ (stp ws k).getD j 0 < k) ∧ ∀ i j, i < j → j < (stp ws k).length → (stp ws k).getD i 0 < (stp ws k).getD j 0
  | 0 => ⟨fun j h => by simp [stp] at h, fun i j _ h => by simp [stp] at h⟩
  | k + 1 => by
    obtain ⟨h1, h2⟩ := stp_rise ws k
    unfold stp
    split
    · refine ⟨fun j hj => ?_, fun i j hij hj => ?_⟩
      · rw [List.length_append, List.length_singleton] at hj
        rcases Nat.lt_or_ge j (stp ws k).length with h | h
        · rw [getD_left h]
          have := h1 j h
          omega
        · rw [show j = (stp ws k).length by omega, getD_last]
          omega
      · rw [List.length_append, List.length_singleton] at hj
        rcases Nat.lt_or_ge j (stp ws k).length with h | h
        · rw [getD_left h, getD_left (by omega)]
          exact h2 i j hij h
        · rw [show j = (stp ws k).length by omega, getD_last, getD_left (by omega)]
          exact (h1 i (by omega)).2
    · refine ⟨fun j hj => ?_, h2⟩
      have := h1 j hj
      omega
theorem stops_rise (ws : List Int) {i j : Nat} (hij : i < j) (hj : j < (stops ws).length) : (stops ws).getD i 0 < (stops ws).getD j 0 := by
  obtain ⟨h1, h2⟩ := stp_rise ws ws.length
  unfold stops at *
  rw [List.length_append, List.length_singleton] at hj
  rcases Nat.lt_or_ge j (stp ws ws.length).length with h | h
  · rw [getD_left h, getD_left (by omega)]
    exact h2 i j hij h
  · rw [show j = (stp ws ws.length).length by omega, getD_last, getD_left (by omega)]
    exact (h1 i (by omega)).2

theorem stops_F (ws : List Int) (hn : ws.length ≤ 2097152) : caret_Stops_F ws = some (stops ws) := by
  unfold caret_Stops_F caret_Stops_T
  refine Post.run (Post.bnd (count (L := fun s : List Int × List Int × List Int × Int × Int => caret_Stops_L3 s.1 s.2.1 s.2.2.1 s.2.2.2.1 s.2.2.2.2) ws.length (fun k => (ws, stp ws k, ws, (ws.length : Int), (k : Int))) (r := (ws, stp ws ws.length)) rfl (fun k hk => ?_) ?_) ?_)
  · dsimp only
    unfold caret_Stops_L3
    have := stp_len ws k
    refine Post.brT (by rw [decide_eq_true_eq]; omega) (Post.idx 0 k rfl hk ?_)
    rw [wrap_succ (by omega), show stp ws (k + 1) = if 0 < ws.getD k 0 then stp ws k ++ [(k : Int)] else stp ws k from rfl]
    by_cases h : 0 < ws.getD k 0
    · rw [if_pos h]
      exact Post.brT (decide_eq_true h) (Post.bnd (app_eq (by simp; omega)) (Post.pure rfl))
    · rw [if_neg h]
      exact Post.brF (decide_eq_false h) (Post.pure rfl)
  · dsimp only
    unfold caret_Stops_L3
    exact Post.brF (by simp) (Post.pure rfl)
  · have := stp_len ws ws.length
    exact Post.bnd (app_eq (by simp; omega)) (Post.pure rfl)

/-! ### where one stands -/
def At (s : List Int) (v r : Int) : Prop := (r = -1 ∧ ∀ j, j < s.length → s.getD j 0 ≠ v) ∨ ∃ k : Nat, r = k ∧ k < s.length ∧ s.getD k 0 = v ∧ ∀ j, j < k → s.getD j 0 ≠ v
theorem At.uniq {s : List Int} {v r q : Int} (h : At s v r) (g : At s v q) : r = q := by
  rcases h with ⟨rfl, h⟩ | ⟨k, rfl, h1, h2, h3⟩
  · rcases g with ⟨rfl, _⟩ | ⟨m, rfl, g1, g2, _⟩
    · rfl
    · exact absurd g2 (h m g1)
  · rcases g with ⟨rfl, g⟩ | ⟨m, rfl, g1, g2, g3⟩
    · exact absurd h2 (g k h1)
    · rcases Nat.lt_trichotomy k m with h | h | h
      · exact absurd h2 (g3 k h)
      · rw [h]
      · exact absurd g2 (h3 m h)
theorem index_F (s : List Int) (v : Int) (hn : s.length ≤ 4194304) : ∃ r, slices_Index___int_int__F s v = some r ∧ At s v r := by
  unfold slices_Index___int_int__F slices_Index___int_int__T
  refine Post.alt (R := fun r => match r with | .inl _ => At s v (-1) | .inr r => At s v r) (loop_ex (L := fun s : List Int × Int × Int × Int => slices_Index___int_int__L2 s.1 s.2.1 s.2.2.1 s.2.2.2) (fun x => ∃ k : Nat, k ≤ s.length ∧ x = (s, v, (s.length : Int), (k : Int)) ∧ ∀ j, j < k → s.getD j 0 ≠ v) (fun x => s.length - x.2.2.2.toNat) ?_ ⟨0, by omega, rfl, fun j h => by omega⟩) (fun _ h => Post.pure h) (fun _ h => Post.pure h)
  rintro x ⟨k, hk, rfl, h⟩
  dsimp only
  unfold slices_Index___int_int__L2
  by_cases e : k < s.length
  · refine Post.brT (by rw [decide_eq_true_eq]; omega) (Post.idx 0 k rfl e ?_)
    by_cases e2 : s.getD k 0 = v
    · exact Post.brT (beq_iff_eq.2 e2.symm) (Post.pure (.inr ⟨k, rfl, e, e2, h⟩))
    · refine Post.brF (beq_eq_false_iff_ne.2 (Ne.symm e2)) (Post.pure ?_)
      rw [wrap_succ (by omega)]
      refine ⟨⟨k + 1, e, rfl, fun j hj => ?_⟩, by dsimp only; omega⟩
      rcases Nat.lt_or_ge j k with h' | h'
      · exact h j h'
      · rw [show j = k by omega]; exact e2
  · refine Post.brF (by rw [decide_eq_false_iff_not]; omega) (Post.pure (.inl ⟨rfl, fun j hj => h j (by omega)⟩))

@[reducible] def caretB : ByteArray := ByteArray.mk #[99, 97, 114, 101, 116]
theorem right_none {s : List Int} {v : Int} (h : slices_Index___int_int__F s v = some (-1)) : caret_Right_F s v = some (0, some (6, caretB, v)) := by
  unfold caret_Right_F caret_Right_T
  exact Post.run (Post.bnd h (Post.brT (by rfl) (Post.bnd (b := some (6, caretB, v)) rfl (Post.pure rfl))))
theorem left_none {s : List Int} {v : Int} (h : slices_Index___int_int__F s v = some (-1)) : caret_Left_F s v = some (0, some (6, caretB, v)) := by
  unfold caret_Left_F caret_Left_T
  exact Post.run (Post.bnd h (Post.brT (by rfl) (Post.bnd (b := some (6, caretB, v)) rfl (Post.pure rfl))))
theorem min_if {n k : Nat} (hn : n ≤ 4194304) (hk : k < n) : (if (IntKind.i64.wrap ((n : Int) - 1)) < (IntKind.i64.wrap ((k : Int) + 1)) then (IntKind.i64.wrap ((n : Int) - 1)) else (IntKind.i64.wrap ((k : Int) + 1))) = ((min (k + 1) (n - 1) : Nat) : Int) := by
  rw [wrap64 (by omega) (by omega), wrap64 (by omega) (by omega)]
  split <;> omega
theorem max_if {k : Nat} (hk : k ≤ 4194304) : (if 0 > (IntKind.i64.wrap ((k : Int) - 1)) then 0 else (IntKind.i64.wrap ((k : Int) - 1))) = ((k - 1 : Nat) : Int) := by
  rw [wrap64 (by omega) (by omega)]
  split <;> omega
theorem right_at {s : List Int} {v : Int} {k : Nat} (hn : s.length ≤ 4194304) (hk : k < s.length) (h : slices_Index___int_int__F s v = some (k : Int)) : caret_Right_F s v = some (s.getD (min (k + 1) (s.length - 1)) 0, none) := by
  unfold caret_Right_F caret_Right_T
  exact Post.run (Post.bnd h (Post.brF (by rw [decide_eq_false_iff_not]; omega) (Post.idx 0 _ (min_if hn hk) (by omega) (Post.pure rfl))))
theorem left_at {s : List Int} {v : Int} {k : Nat} (hn : s.length ≤ 4194304) (hk : k < s.length) (h : slices_Index___int_int__F s v = some (k : Int)) : caret_Left_F s v = some (s.getD (k - 1) 0, none) := by
  unfold caret_Left_F caret_Left_T
  exact Post.run (Post.bnd h (Post.brF (by rw [decide_eq_false_iff_not]; omega) (Post.idx 0 _ (max_if (by omega)) (by omega) (Post.pure rfl))))
theorem told_caret (v : Int) : law02_Told_F (some (6, caretB, v)) 6 caretB v = some true := by
  unfold law02_Told_F law02_Told_T
  exact Post.run (Post.brF (by rfl) (Post.bnd (b := (caretB, v)) rfl (Post.bnd (b := 6) rfl (Post.brT (by rfl) (Post.brT (by simp) (Post.pure (by simp)))))))

/-- in a rising list each stands where it stands -/
theorem index_rise {ws : List Int} (hn : ws.length ≤ 2097152) {k : Nat} (hk : k < (stops ws).length) : slices_Index___int_int__F (stops ws) ((stops ws).getD k 0) = some (k : Int) := by
  have := stops_len ws
  obtain ⟨r, h1, h2⟩ := index_F (stops ws) ((stops ws).getD k 0) (by omega)
  have h3 : At (stops ws) ((stops ws).getD k 0) (k : Int) := .inr ⟨k, rfl, hk, rfl, fun j hj => by have := stops_rise ws hj hk; omega⟩
  rw [h1, h2.uniq h3]

theorem awake29 : law29_awake_F = some true := by
  unfold law29_awake_F law29_awake_T
  have hs : stops [1, 0, 2] = [0, 2, 3] := by decide
  have h1 := stops_F [1, 0, 2] (by simp)
  have h0 := index_rise (ws := [1, 0, 2]) (k := 0) (by simp) (by rw [hs]; decide)
  have hr := right_at (by rw [hs]; decide) (by rw [hs]; decide) h0
  have hl := left_at (by rw [hs]; decide) (by rw [hs]; decide) h0
  rw [hs] at h1 h0 hr hl
  obtain ⟨r, h2, h3⟩ := index_F [0, 2, 3] 1 (by simp)
  obtain rfl := h3.uniq (q := -1) (.inl ⟨rfl, fun j hj => by
    have : j = 0 ∨ j = 1 ∨ j = 2 := by simp at hj; omega
    rcases this with rfl | rfl | rfl <;> decide⟩)
  refine Post.run (Post.bnd h1 (Post.bnd hr (Post.bnd hl (Post.bnd (right_none h2) (Post.bnd (same_F [0, 2, 3] (by simp)) ?_)))))
  exact Post.brT rfl (Post.brT (by rfl) (Post.brT rfl (Post.brT (by rfl) (Post.brT rfl (Post.bnd (told_caret 1) (Post.pure rfl))))))

/-! ### CaretMoves -/
theorem caretMoves_true (ws s : List Int) (v : Int) (hn : ws.length ≤ 2097152) (hs : s.length ≤ 2097152) : law29_CaretMoves_F ws s v = some true := by
  unfold law29_CaretMoves_F law29_CaretMoves_T
  refine Post.run (Post.bnd awake29 (Post.brF rfl (Post.bnd (count (L := fun s : List Int × List Int × Int × List Int × List Int × Int × Int => law29_CaretMoves_L5 s.1 s.2.1 s.2.2.1 s.2.2.2.1 s.2.2.2.2.1 s.2.2.2.2.2.1 s.2.2.2.2.2.2) ws.length (fun k => (ws, s, v, stp ws k, ws, (ws.length : Int), (k : Int))) (r := (ws, s, v, stp ws ws.length)) rfl (fun k hk => ?_) ?_) ?_)))
  · dsimp only
    unfold law29_CaretMoves_L5
    have := stp_len ws k
    refine Post.brT (by rw [decide_eq_true_eq]; omega) (Post.idx 0 k rfl hk ?_)
    rw [wrap_succ (by omega), show stp ws (k + 1) = if 0 < ws.getD k 0 then stp ws k ++ [(k : Int)] else stp ws k from rfl]
    by_cases h : 0 < ws.getD k 0
    · rw [if_pos h]
      exact Post.brT (decide_eq_true h) (Post.bnd (app_eq (by simp; omega)) (Post.pure rfl))
    · rw [if_neg h]
      exact Post.brF (decide_eq_false h) (Post.pure rfl)
  · dsimp only
    unfold law29_CaretMoves_L5
    exact Post.brF (by simp) (Post.pure rfl)
  · have hl := stops_len ws
    have hq := stp_len ws ws.length
    refine Post.bnd (app_eq (by simp; omega)) (Post.bnd (stops_F ws hn) (Post.bnd (show law25_Same_F (stops ws) (stops ws) = some true from same_F _ (by omega)) (Post.brF rfl ?_)))
    dsimp only
    refine Post.loop (L := fun s : List Int × Int × Int × Int => law29_CaretMoves_L15 s.1 s.2.1 s.2.2.1 s.2.2.2) (fun x => ∃ (k : Nat) (p : Int), k ≤ s.length ∧ x = (s, v, p, (k : Int) - 1) ∧ ((p = -1 ∧ ∀ j, k ≤ j → j < s.length → s.getD j 0 ≠ v) ∨ ∃ q : Nat, p = q ∧ k ≤ q ∧ q < s.length ∧ s.getD q 0 = v ∧ ∀ j, k ≤ j → j < q → s.getD j 0 ≠ v))
      (fun x => (x.2.2.2 + 1).toNat) (R := fun r => ∃ p, r = (s, v, p) ∧ At s v p) ⟨s.length, -1, Nat.le_refl _, by rw [wrap64 (by omega) (by omega)], .inl ⟨rfl, fun j h1 h2 => by omega⟩⟩ ?_ ?_
    · rintro x ⟨k, p, hk, rfl, h⟩
      dsimp only
      unfold law29_CaretMoves_L15
      cases k with
      | zero =>
        refine Post.brF (by rw [decide_eq_false_iff_not]; omega) (Post.pure ⟨p, rfl, ?_⟩)
        rcases h with ⟨rfl, h⟩ | ⟨q, rfl, _, h2, h3, h4⟩
        · exact .inl ⟨rfl, fun j hj => h j (by omega) hj⟩
        · exact .inr ⟨q, rfl, h2, h3, fun j hj => h4 j (by omega) hj⟩
      | succ k =>
        rw [show ((k + 1 : Nat) : Int) - 1 = (k : Int) by omega]
        refine Post.brT (by rw [decide_eq_true_eq]; omega) (Post.idx 0 k rfl (by omega) ?_)
        rw [wrap64 (by omega) (by omega)]
        by_cases e : s.getD k 0 = v
        · exact Post.brT (beq_iff_eq.2 e) (Post.pure ⟨⟨k, k, by omega, rfl, .inr ⟨k, rfl, Nat.le_refl _, by omega, e, fun j h1 h2 => by omega⟩⟩, by dsimp only; omega⟩)
        · refine Post.brF (beq_eq_false_iff_ne.2 e) (Post.pure ⟨⟨k, p, by omega, rfl, ?_⟩, by dsimp only; omega⟩)
          rcases h with ⟨rfl, h⟩ | ⟨q, rfl, h1, h2, h3, h4⟩
          · exact .inl ⟨rfl, fun j h1 h2 => by
              rcases Nat.lt_or_ge k j with h' | h'
              · exact h j h' h2
              · rw [show j = k by omega]; exact e⟩
          · exact .inr ⟨q, rfl, by omega, h2, h3, fun j g1 g2 => by
              rcases Nat.lt_or_ge k j with h' | h'
              · exact h4 j h' g2
              · rw [show j = k by omega]; exact e⟩
    · rintro _ ⟨p, rfl, hp⟩
      dsimp only
      obtain ⟨r, h1, h2⟩ := index_F s v (by omega)
      obtain rfl := h2.uniq hp
      rcases hp with ⟨rfl, _⟩ | ⟨k, rfl, hk, _, _⟩
      · refine Post.bnd (right_none h1) (Post.bnd (left_none h1) ?_)
        exact Post.brT rfl (Post.brT rfl (Post.brT rfl (Post.bnd (told_caret v) (Post.brT rfl (Post.bnd (told_caret v) (Post.pure rfl))))))
      · refine Post.bnd (right_at (by omega) hk h1) (Post.bnd (left_at (by omega) hk h1) ?_)
        refine Post.brF (by rw [decide_eq_false_iff_not]; omega) (Post.brT rfl (Post.brT rfl (Post.idx 0 _ (min_if (by omega) hk) (by omega) (Post.brT (by simp) (Post.idx 0 _ (max_if (by omega)) (by omega) (Post.pure (by simp)))))))
theorem caretMoves_all (x : Tys.I [.sl (.int .i64), .sl (.int .i64), .int .i64]) (_ : WfAll [.sl (.int .i64), .sl (.int .i64), .int .i64] x) (hb : bulkAll [.sl (.int .i64), .sl (.int .i64), .int .i64] x ≤ 1048576) : law29_CaretMoves_F x.1 x.2.1 x.2.2.1 = some true := by
  simp only [bulkAll, bulk] at hb
  exact caretMoves_true _ _ _ (by omega) (by omega)

/-! ### widths -/
theorem widths_F (ns : List Int) (hn : ns.length ≤ 2097152) (h8 : ∀ n ∈ ns, 0 ≤ n ∧ n ≤ 255) : law22_Widths_F ns = some (tab ns.length fun i => ns.getD i 0 % 3) := by
  unfold law22_Widths_F law22_Widths_T
  refine Post.run (Post.bnd (count (L := fun s : List Int × List Int × Int => law22_Widths_L3 s.1 s.2.1 s.2.2) ns.length (fun k => (ns, tab k fun i => ns.getD i 0 % 3, (k : Int))) rfl (fun k hk => ?_) ?_) (Post.pure rfl))
  · have hm : 0 ≤ ns.getD k 0 ∧ ns.getD k 0 ≤ 255 := by
      refine h8 _ ?_
      simp [List.getD, hk]
    dsimp only
    unfold law22_Widths_L3
    refine Post.brT (by rw [decide_eq_true_eq]; omega) (Post.idx 0 k rfl hk (Post.bnd (app_eq (by rw [tab_len]; simp; omega)) (Post.pure ?_)))
    rw [Int.tmod_eq_emod_of_nonneg hm.1, wrap64 (by omega) (by omega), wrap_succ (by omega), ← tab_succ]
  · dsimp only
    unfold law22_Widths_L3
    exact Post.brF (by simp) (Post.pure rfl)

theorem caretBack_true (ns : List Int) (hn : ns.length ≤ 2097152) (h8 : ∀ n ∈ ns, 0 ≤ n ∧ n ≤ 255) : law29_CaretBack_F ns = some true := by
  unfold law29_CaretBack_F law29_CaretBack_T
  have hw := widths_F ns hn h8
  have hwl : (tab ns.length fun i => ns.getD i 0 % 3).length = ns.length := tab_len _ _
  generalize (tab ns.length fun i => ns.getD i 0 % 3) = ws at hw hwl
  have hl := stops_len ws
  have hix := fun {k : Nat} (hk : k < (stops ws).length) => index_rise (ws := ws) (by omega) hk
  have hs := stops_F ws (by omega)
  generalize hS : stops ws = S at *
  refine Post.run (Post.bnd awake29 (Post.brF rfl (Post.bnd hw (Post.bnd hs (Post.brF (beq_eq_false_iff_ne.2 (by omega)) (Post.idx 0 0 rfl (by omega) (Post.altL (b := ()) (count (L := fun s : List Int × Int × Int => law29_CaretBack_L8 s.1 s.2.1 s.2.2) S.length (fun k => (S, S.getD (min k (S.length - 1)) 0, (k : Int))) rfl (fun k hk => ?_) ?_) (Post.pure rfl))))))))
  · dsimp only
    unfold law29_CaretBack_L8
    rw [show min k (S.length - 1) = k by omega]
    refine Post.brT (by rw [decide_eq_true_eq]; omega) (Post.idx 0 k rfl hk (Post.brF (by simp) ?_))
    refine Post.bnd (right_at (by omega) hk (hix hk)) ?_
    refine Post.bnd (left_at (by omega) (by omega) (hix (k := min (k + 1) (S.length - 1)) (by omega))) ?_
    refine Post.brF rfl (Post.brF rfl ?_)
    rw [wrap_succ (by omega)]
    by_cases e : k + 1 < S.length
    · refine Post.brT (by rw [decide_eq_true_eq]; omega) (Post.brF ?_ (Post.brF (beq_eq_false_iff_ne.2 (by omega)) (Post.pure rfl)))
      rw [show min (k + 1) (S.length - 1) - 1 = k by omega]
      simp
    · refine Post.brF (by rw [decide_eq_false_iff_not]; omega) (Post.brT (beq_iff_eq.2 (by omega)) (Post.brF ?_ (Post.pure rfl)))
      rw [show min (k + 1) (S.length - 1) = k by omega]
      simp
  · dsimp only
    unfold law29_CaretBack_L8
    exact Post.brF (by simp) (Post.pure rfl)
theorem caretBack_all (x : Tys.I [.sl (.int .u8)]) (h : WfAll [.sl (.int .u8)] x) (hb : bulkAll [.sl (.int .u8)] x ≤ 1048576) : law29_CaretBack_F x.1 = some true := by
  simp only [bulkAll, bulk] at hb
  exact caretBack_true _ (by omega) (fun n hn => wf_u8 (h.1.2 n hn))

theorem caretCount_true (ns : List Int) (hn : ns.length ≤ 2097152) (h8 : ∀ n ∈ ns, 0 ≤ n ∧ n ≤ 255) : law29_CaretCount_F ns = some true := by
  unfold law29_CaretCount_F law29_CaretCount_T
  have hw := widths_F ns hn h8
  have hwl : (tab ns.length fun i => ns.getD i 0 % 3).length = ns.length := tab_len _ _
  generalize (tab ns.length fun i => ns.getD i 0 % 3) = ws at hw hwl
  have hl := stops_len ws
  have hs := stops_F ws (by omega)
  have hq := stp_len ws ws.length
  refine Post.run (Post.bnd awake29 (Post.brF rfl (Post.bnd hw (Post.bnd hs (Post.bnd (count (L := fun s : List Int × List Int × Int × Int × Int => law29_CaretCount_L7 s.1 s.2.1 s.2.2.1 s.2.2.2.1 s.2.2.2.2) ws.length (fun k => (ws, stops ws, ((stp ws k).length : Int), (ws.length : Int), (k : Int))) (r := (ws, stops ws, ((stp ws ws.length).length : Int))) rfl (fun k hk => ?_) ?_) ?_)))))
  · dsimp only
    unfold law29_CaretCount_L7
    have := stp_len ws k
    refine Post.brT (by rw [decide_eq_true_eq]; omega) (Post.idx 0 k rfl hk ?_)
    rw [wrap_succ (k := k) (by omega), show stp ws (k + 1) = if 0 < ws.getD k 0 then stp ws k ++ [(k : Int)] else stp ws k from rfl]
    by_cases h : 0 < ws.getD k 0
    · rw [if_pos h, wrap_succ (by omega), List.length_append, List.length_singleton]
      exact Post.brT (decide_eq_true h) (Post.pure rfl)
    · rw [if_neg h]
      exact Post.brF (decide_eq_false h) (Post.pure rfl)
  · dsimp only
    unfold law29_CaretCount_L7
    exact Post.brF (by simp) (Post.pure rfl)
  · dsimp only
    have hS : (stops ws).length = (stp ws ws.length).length + 1 := by unfold stops; simp
    refine Post.altL (b := (ws, stops ws, ((stp ws ws.length).length : Int))) (count (L := fun s : List Int × List Int × Int × Int => law29_CaretCount_L13 s.1 s.2.1 s.2.2.1 s.2.2.2) ((stops ws).length - 1) (fun k => (ws, stops ws, ((stp ws ws.length).length : Int), ((k + 1 : Nat) : Int))) rfl (fun k hk => ?_) ?_) ?_
    · dsimp only
      unfold law29_CaretCount_L13
      have := stops_rise ws (i := k) (j := k + 1) (by omega) (by omega)
      refine Post.brT (by rw [decide_eq_true_eq]; omega) (Post.idx 0 (k + 1) rfl (by omega) (Post.idx 0 k (by rw [wrap64 (by omega) (by omega)]; omega) (by omega) (Post.brF (by rw [decide_eq_false_iff_not]; omega) (Post.pure ?_))))
      rw [wrap_succ (by omega)]
    · dsimp only
      unfold law29_CaretCount_L13
      exact Post.brF (by rw [decide_eq_false_iff_not]; omega) (Post.pure rfl)
    · dsimp only
      rw [wrap_succ (by omega)]
      refine Post.brT (beq_iff_eq.2 (by omega)) (Post.idx 0 (stp ws ws.length).length rfl (by omega) (Post.pure ?_))
      rw [show (stops ws).getD (stp ws ws.length).length 0 = (ws.length : Int) from getD_last]
      simp
theorem caretCount_all (x : Tys.I [.sl (.int .u8)]) (h : WfAll [.sl (.int .u8)] x) (hb : bulkAll [.sl (.int .u8)] x ≤ 1048576) : law29_CaretCount_F x.1 = some true := by
  simp only [bulkAll, bulk] at hb
  exact caretCount_true _ (by omega) (fun n hn => wf_u8 (h.1.2 n hn))

end Go.Proofs.YtjglcaocbepmhaaDoor
