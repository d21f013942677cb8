/-
  The statements ViewRow and ViewMoves over their readings.
-/
import Derived.Test.YtcbmacpdiiehjaaSh
import Derived.Test.YtcbmacpdiiehjaaVwM
namespace Go.Proofs.Ytcbmacpdiiehjaa
set_option linter.all false

theorem idx_of {α : Type} {xs : List α} {i : Int} {k : Nat} {x : α} (h : i = k) (hx : xs[k]? = some x) : idx xs i = some x := by
  subst h
  unfold idx
  rw [if_pos (by omega)]
  simpa using hx

/-! ### the line -/
theorem widths_F (ns : List Int) (hn : ns.length ≤ 2097152) (h8 : ∀ n ∈ ns, 0 ≤ n ∧ n ≤ 255) : law22_Widths_F ns = some (tab ns.length (fun i => (ns.getD i 0) % 3)) := by
  unfold law22_Widths_F
  refine Post.run (Post.bnd (count ns.length (fun k => (ns, tab k (fun i => (ns.getD i 0) % 3), (k : Int))) (r := tab ns.length (fun i => (ns.getD i 0) % 3)) rfl (fun k hk => ?_) ?_) (Post.pure rfl))
  · have hm := h8 (ns.getD k 0) (by simp [List.getD, hk])
    refine Post.brT (decide_eq_true (by dsimp only; omega)) (Post.idx 0 k rfl hk (Post.bnd (app_eq (by simp only [tab_len, List.length_cons, List.length_nil]; omega)) (Post.pure ?_)))
    dsimp only
    rw [Int.tmod_eq_emod_of_nonneg hm.1, wrap64 (n := ns.getD k 0 % 3) (by omega) (by omega), wrap_succ (by omega), tab_succ k (fun i => (ns.getD i 0) % 3)]
  · exact Post.brF (decide_eq_false (by dsimp only; omega)) (Post.pure rfl)
theorem widths_small {ns : List Int} : SmallW (tab ns.length (fun i => (ns.getD i 0) % 3)) := by
  have h : ∀ k, 0 ≤ (tab ns.length (fun i => (ns.getD i 0) % 3)).getD k 0 ∧ (tab ns.length (fun i => (ns.getD i 0) % 3)).getD k 0 ≤ 2 := by
    intro k
    by_cases hk : k < ns.length
    · rw [tab_getD _ _ hk]; omega
    · rw [getD_len (by rw [tab_len]; omega)]; omega
  exact ⟨fun k => (h k).1, fun k => (h k).2⟩

theorem line_F (ns ws : List Int) (hn : ns.length ≤ 2097152) (hw : ws.length ≤ 2097152) (h8 : ∀ n ∈ ws, 0 ≤ n ∧ n ≤ 255) :
    ∃ gs, law36_Line_F ns ws = some (gs, tab (min ns.length ws.length) (fun i => (ws.getD i 0) % 3)) ∧ gs.length = min ns.length ws.length := by
  obtain ⟨m, hm⟩ : ∃ m, m = min ns.length ws.length := ⟨_, rfl⟩
  have e0 : (if (ws.length : Int) < (ns.length : Int) then (ws.length : Int) else (ns.length : Int)) = (m : Int) := by split <;> omega
  have hl := loop_ex (L := fun s : List Int × List Int × Int × List Int × Int => law36_Line_L4 s.1 s.2.1 s.2.2.1 s.2.2.2.1 s.2.2.2.2)
    (I := fun s => ∃ (k : Nat) (out : List Int), k ≤ m ∧ out.length = k ∧ s = (ns, ws, (m : Int), out, (k : Int))) (m := fun s => m - s.2.2.2.2.toNat)
    (R := fun r => ∃ out : List Int, out.length = m ∧ r = (ws, (m : Int), out)) (s0 := (ns, ws, if (ws.length : Int) < (ns.length : Int) then (ws.length : Int) else (ns.length : Int), [], 0))
    (by
      rintro s ⟨k, out, hk, ho, rfl⟩
      dsimp only
      refine Post.br (fun hc => ?_) (fun hc => Post.pure ?_)
      · have hc := of_decide_eq_true hc
        refine Post.idx 0 k rfl (by omega) (Post.bnd (app_eq (by simp only [List.length_cons, List.length_nil]; omega)) (Post.pure ?_))
        dsimp only
        rw [wrap_succ (by omega)]
        exact ⟨⟨k + 1, _, by omega, by simp [ho], rfl⟩, by omega⟩
      · have hc := of_decide_eq_false hc
        exact ⟨out, by omega, rfl⟩)
    ⟨0, [], Nat.zero_le _, rfl, by rw [e0]; rfl⟩
  obtain ⟨r, h1, out, h2, rfl⟩ := hl
  refine ⟨out, ?_, by rw [h2, hm]⟩
  unfold law36_Line_F
  refine Post.run (Post.bnd h1 (Post.bnd (cut_take (n := m) rfl (show m ≤ ws.length by omega)) (Post.bnd (widths_F _ (by rw [List.length_take]; omega) (fun n hn => h8 n (List.mem_of_mem_take hn))) (Post.pure ?_))))
  dsimp only
  rw [List.length_take, show min m ws.length = m by omega, ← hm]
  refine congrArg (Prod.mk out) (tab_congr fun k hk => ?_)
  rw [take_getD 0 (by omega)]

/-! ### which one has a cell -/
def Has (ws : List Int) (p : Int) (j : Nat) : Prop := sumW ws j ≤ p ∧ p < sumW ws j + ws.getD j 0
theorem has_one {ws : List Int} (hs : SmallW ws) {p : Int} {i j : Nat} (h1 : Has ws p i) (h2 : Has ws p j) : i = j := by
  unfold Has at h1 h2
  rcases Nat.lt_trichotomy i j with h | h | h
  · have := sumW_next hs h; omega
  · exact h
  · have := sumW_next hs h; omega
theorem at_F {ws : List Int} (hs : SmallW ws) (hn : ws.length ≤ 2097152) (p : Int) (hp : -9000000000000000000 ≤ p ∧ p ≤ 9000000000000000000) :
    (∃ j, j < ws.length ∧ Has ws p j ∧ law36_at_F ws p = some ((j : Int), p - sumW ws j)) ∨ ((∀ j, j < ws.length → ¬ Has ws p j) ∧ law36_at_F ws p = some (-1, 0)) := by
  have hl := loop_ex (L := fun s : Int × Int × List Int × Int × Int => law36_at_L3 s.1 s.2.1 s.2.2.1 s.2.2.2.1 s.2.2.2.2)
    (I := fun s => ∃ k : Nat, k ≤ ws.length ∧ (∀ j, j < k → ¬ Has ws p j) ∧ s = (p, sumW ws k, ws, (ws.length : Int), (k : Int))) (m := fun s => ws.length - s.2.2.2.2.toNat)
    (R := fun r => match r with | .inl _ => ∀ j, j < ws.length → ¬ Has ws p j | .inr q => ∃ j, j < ws.length ∧ Has ws p j ∧ q = ((j : Int), p - sumW ws j)) (s0 := (p, 0, ws, (ws.length : Int), 0))
    (by
      rintro s ⟨k, hk, hno, rfl⟩
      dsimp only
      have hb := sumW_bd hs k
      have h0 := hs.nn k
      have h2 := hs.le k
      refine Post.br (fun hc => ?_) (fun hc => Post.pure ?_)
      · have hc := of_decide_eq_true hc
        have hkl : k < ws.length := by omega
        have e : IntKind.i64.wrap (sumW ws k + ws.getD k 0) = sumW ws (k + 1) := by rw [wrap64 (by omega) (by omega)]; rfl
        refine Post.idx 0 k rfl hkl ?_
        rw [e, wrap_succ (by omega)]
        have next : ¬ Has ws p k → (∃ k' : Nat, k' ≤ ws.length ∧ (∀ j, j < k' → ¬ Has ws p j) ∧ (p, sumW ws (k + 1), ws, (ws.length : Int), ((k + 1 : Nat) : Int)) = (p, sumW ws k', ws, (ws.length : Int), (k' : Int))) ∧ ws.length - (((k + 1 : Nat) : Int)).toNat < ws.length - ((k : Int)).toNat := fun h => by
          refine ⟨⟨k + 1, hkl, fun j hj => ?_, rfl⟩, by omega⟩
          by_cases e : j = k
          · subst e; exact h
          · exact hno j (by omega)
        refine Post.br (fun c1 => ?_) (fun c1 => Post.pure (next ?_))
        · have c1 := of_decide_eq_true c1
          refine Post.br (fun c2 => Post.pure ?_) (fun c2 => Post.pure (next ?_))
          · have c2 := of_decide_eq_true c2
            refine ⟨k, hkl, ⟨c1, c2⟩, ?_⟩
            rw [wrap64 (by omega) (by omega)]
          · exact fun h => absurd h.2 (of_decide_eq_false c2)
        · exact fun h => absurd h.1 (of_decide_eq_false c1)
      · have hc := of_decide_eq_false hc
        exact fun j hj => hno j (by omega))
    ⟨0, Nat.zero_le _, fun j hj => by omega, rfl⟩
  obtain ⟨r, h1, h2⟩ := hl
  unfold law36_at_F
  cases r with
  | inl u => exact .inr ⟨h2, Post.run (Post.altL h1 (Post.pure rfl))⟩
  | inr q =>
    obtain ⟨j, hj, hh, rfl⟩ := h2
    exact .inl ⟨j, hj, hh, Post.run (Post.altR h1 (Post.pure rfl))⟩

/-! ### a glyph and the marks behind it -/
theorem rb_snoc (l : List Int) (g : Int) : runesBytes (l ++ [g]) = runesBytes l ++ Utf8.encode g := by simp [runesBytes, List.foldl_append]
theorem rb_one (g : Int) : runesBytes [g] = Utf8.encode g := by
  simp [runesBytes]
theorem shown_F {gs ws : List Int} (hl : gs.length = ws.length) (hn : ws.length ≤ 2097152) {j : Nat} (hj : j < ws.length) : law36_shown_F gs ws (j : Int) = some (runesBytes (gs.getD j 0 :: sh gs ws (j + 1))) := by
  have hloop := loop_ex (L := fun s : List Int × List Int × ByteArray × Int => law36_shown_L3 s.1 s.2.1 s.2.2.1 s.2.2.2)
    (I := fun s => ∃ (i : Nat) (l : List Int), i ≤ ws.length ∧ l.length ≤ i ∧ l ++ sh gs ws i = gs.getD j 0 :: sh gs ws (j + 1) ∧ s = (gs, ws, runesBytes l, (i : Int))) (m := fun s => ws.length - s.2.2.2.toNat)
    (R := fun r => r = runesBytes (gs.getD j 0 :: sh gs ws (j + 1))) (s0 := (gs, ws, Utf8.encode (gs.getD j 0), IntKind.i64.wrap ((j : Int) + 1)))
    (by
      rintro s ⟨i, l, hi, hll, he, rfl⟩
      dsimp only
      refine Post.br (fun hc => ?_) (fun hc => Post.pure ?_)
      · have hc := of_decide_eq_true hc
        have hil : i < ws.length := by omega
        refine Post.idx 0 i rfl hil (Post.br (fun hz => ?_) (fun hz => Post.pure ?_))
        · have hz : ws.getD i 0 = 0 := by simpa using hz
          have h1 := runesBytes_size_le l
          have h2 := runesBytes_size_le [gs.getD i 0]
          rw [rb_one] at h2
          simp only [List.length_cons, List.length_nil] at h2
          refine Post.idx 0 i rfl (by omega) (Post.brT (decide_eq_true (by omega)) (Post.pure ?_))
          dsimp only
          rw [wrap_succ (by omega), ← rb_snoc]
          refine ⟨⟨i + 1, l ++ [gs.getD i 0], by omega, by simp; omega, ?_, rfl⟩, by omega⟩
          rw [← he, sh_zero hil hz, List.append_assoc]
          rfl
        · have hz : ws.getD i 0 ≠ 0 := by simpa using hz
          rw [sh_pos hz, List.append_nil] at he
          rw [he]
      · have hc := of_decide_eq_false hc
        rw [sh_end (by omega), List.append_nil] at he
        rw [he])
    ⟨j + 1, [gs.getD j 0], by omega, by simp, rfl, by rw [wrap_succ (by omega), rb_one]⟩
  obtain ⟨r, h1, rfl⟩ := hloop
  unfold law36_shown_F
  exact Post.run (Post.idx 0 j rfl (by omega) (Post.bnd h1 (Post.pure rfl)))

/-! ### the document's examples -/
theorem text1 : view_Text_F [([97], 0, 0), ([19968], 1, 0), ([], 1, 1), ([98], 2, 0)] = some [97, 19968, 98] := by
  unfold view_Text_F
  exact Post.run (Post.bnd (loopW_eq (n := 5) (by rfl)) (Post.pure rfl))
theorem text2 : view_Text_F [([32], -1, 0), ([98], 2, 0), ([32], -1, 0)] = some [32, 98, 32] := by
  unfold view_Text_F
  exact Post.run (Post.bnd (loopW_eq (n := 5) (by rfl)) (Post.pure rfl))
theorem text3 : view_Text_F [([32], -1, 0), ([97], 0, 0)] = some [32, 97] := by
  unfold view_Text_F
  exact Post.run (Post.bnd (loopW_eq (n := 5) (by rfl)) (Post.pure rfl))
theorem row1 : view_Row_F [97, 19968, 98] [1, 2, 1] 0 4 = some ([([97], 0, 0), ([19968], 1, 0), ([], 1, 1), ([98], 2, 0)], none) := by rfl
theorem row2 : view_Row_F [97, 19968, 98] [1, 2, 1] 2 3 = some ([([32], -1, 0), ([98], 2, 0), ([32], -1, 0)], none) := by rfl
theorem row3 : view_Row_F [97, 19968, 98] [1, 2, 1] (-1) 2 = some ([([32], -1, 0), ([97], 0, 0)], none) := by rfl
theorem awake_F : law36_awake_F = some true := by
  unfold law36_awake_F
  refine Post.run (Post.bnd row1 (Post.bnd row2 (Post.bnd row3 (Post.brT rfl (Post.brT rfl (Post.brT rfl (Post.brT rfl (Post.bnd rfl (Post.brT rfl (Post.bnd rfl (Post.brT rfl (Post.bnd text1 (Post.brT (beq_self_eq_true _) (Post.bnd text2 (Post.brT ?_ (Post.bnd text3 (Post.pure ?_)))))))))))))))))
  · decide +kernel
  · decide +kernel
end Go.Proofs.Ytcbmacpdiiehjaa
