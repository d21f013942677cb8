/-
  A table of ranges: what is found in it by halving.
-/
import Derived.Test.YtbahobcalimoiaaSh
import Derived.Test.YtbahobcalimoiaaEvMath
namespace Go.Proofs.Ytbahobcalimoiaa
set_option linter.all false

def findB (t : List (Int × Int × Int)) (r o : Int) : Nat → Nat → Nat → Int
  | 0, _, _ => o
  | n + 1, lo, hi => if lo < hi then
      (match t[(lo + hi) / 2]? with
      | some x => if r < x.1 then findB t r o n lo ((lo + hi) / 2) else if r > x.2.1 then findB t r o n ((lo + hi) / 2 + 1) hi else x.2.2
      | none => o) else o
def finds (t : List (Int × Int × Int)) (r o : Int) : Int := findB t r o (t.length + 1) 0 t.length

theorem find_F (t : List (Int × Int × Int)) (r o : Int) (hn : t.length ≤ 1000000) : ranges_Find_F t r o = some (finds t r o) := by
  unfold ranges_Find_F ranges_Find_T
  have key : ∀ (n lo hi : Nat), hi ≤ t.length → lo ≤ hi → hi - lo < n → ∃ z, loopW (fun s : (List (Int × Int × Int)) × Int × Int × Int × Int => (ranges_Find_L2 s.1 s.2.1 s.2.2.1 s.2.2.2.1 s.2.2.2.2).run) (t, r, o, (lo : Int), (hi : Int)) = some z ∧ (z = .inl (findB t r o n lo hi) ∨ z = .inr (findB t r o n lo hi)) := by
    intro n
    induction n with
    | zero => intro lo hi _ _ h; omega
    | succ n ih =>
      intro lo hi hh hlh hlt
      by_cases h : lo < hi
      · have hm : (lo + hi) / 2 < t.length := by omega
        have ew : IntKind.i64.wrap ((IntKind.i64.wrap ((lo : Int) + (hi : Int))).tdiv 2) = (((lo + hi) / 2 : Nat) : Int) := by
          rw [wrap64 (n := (lo : Int) + (hi : Int)) (by omega) (by omega), Int.tdiv_eq_ediv_of_nonneg (by omega), wrap64 (by omega) (by omega)]; omega
        have hx : t[(lo + hi) / 2]? = some (t.getD ((lo + hi) / 2) (0, 0, 0)) := by rw [List.getElem?_eq_getElem hm]; simp [List.getD, hm]
        generalize he : t.getD ((lo + hi) / 2) (0, 0, 0) = x at hx
        have hf : findB t r o (n + 1) lo hi = if r < x.1 then findB t r o n lo ((lo + hi) / 2) else if r > x.2.1 then findB t r o n ((lo + hi) / 2 + 1) hi else x.2.2 := by
          show (if lo < hi then (match t[(lo + hi) / 2]? with | some x => if r < x.1 then findB t r o n lo ((lo + hi) / 2) else if r > x.2.1 then findB t r o n ((lo + hi) / 2 + 1) hi else x.2.2 | none => o) else o) = _
          rw [if_pos h, hx]
        have step : ∀ {l : Lap ((List (Int × Int × Int)) × Int × Int × Int × Int) (Sum Int Int)}, Post (ranges_Find_L2 t r o lo hi) (· = l) → (ranges_Find_L2 t r o lo hi).run = some l := fun h => h.run
        by_cases h1 : r < x.1
        · rw [if_pos h1] at hf
          obtain ⟨z, hz, hz2⟩ := ih lo ((lo + hi) / 2) (by omega) (by omega) (by omega)
          refine ⟨z, loopW_next (step ?_) hz, by rw [hf]; exact hz2⟩
          unfold ranges_Find_L2
          rw [ew]
          refine Post.brT (by simpa using h) (Post.idx (0, 0, 0) _ rfl hm ?_)
          rw [he]
          exact Post.brT (by simpa using h1) (Post.pure rfl)
        · by_cases h2 : r > x.2.1
          · rw [if_neg h1, if_pos h2] at hf
            obtain ⟨z, hz, hz2⟩ := ih ((lo + hi) / 2 + 1) hi (by omega) (by omega) (by omega)
            refine ⟨z, loopW_next (step ?_) hz, by rw [hf]; exact hz2⟩
            unfold ranges_Find_L2
            rw [ew]
            refine Post.brT (by simpa using h) (Post.idx (0, 0, 0) _ rfl hm ?_)
            rw [he]
            refine Post.brF (by simpa using h1) (Post.idx (0, 0, 0) _ rfl hm ?_)
            rw [he]
            refine Post.brT (by simpa using h2) (Post.pure ?_)
            rw [wrap64 (by omega) (by omega)]; rfl
          · rw [if_neg h1, if_neg h2] at hf
            refine ⟨_, loopW_done (step ?_), .inr rfl⟩
            unfold ranges_Find_L2
            rw [ew, hf]
            refine Post.brT (by simpa using h) (Post.idx (0, 0, 0) _ rfl hm ?_)
            rw [he]
            refine Post.brF (by simpa using h1) (Post.idx (0, 0, 0) _ rfl hm ?_)
            rw [he]
            refine Post.brF (by simpa using h2) (Post.idx (0, 0, 0) _ rfl hm ?_)
            rw [he]
            exact Post.pure rfl
      · have hf : findB t r o (n + 1) lo hi = o := by
          show (if lo < hi then _ else o) = o
          rw [if_neg h]
        refine ⟨.inl o, loopW_done (Post.run ?_), .inl (by rw [hf])⟩
        show Post (ranges_Find_L2 t r o lo hi) _
        unfold ranges_Find_L2
        exact Post.brF (by simpa using h) (Post.pure rfl)
  obtain ⟨z, hz, hz2⟩ := key (t.length + 1) 0 t.length (by omega) (by omega) (by omega)
  rcases hz2 with rfl | rfl
  · exact Post.run (Post.altL hz (Post.pure rfl))
  · exact Post.run (Post.altR hz (Post.pure rfl))

/-- what a table has of a number -/
def Has (t : List (Int × Int × Int)) (r o v : Int) : Prop := (∃ x ∈ t, x.1 ≤ r ∧ r ≤ x.2.1 ∧ v = x.2.2) ∨ (v = o ∧ ∀ x ∈ t, ¬ (x.1 ≤ r ∧ r ≤ x.2.1))

def sortedB : List (Int × Int × Int) → Bool
  | [] => true
  | [x] => decide (x.1 ≤ x.2.1)
  | x :: y :: r => decide (x.1 ≤ x.2.1) && decide (x.2.1 < y.1) && sortedB (y :: r)

theorem sorted_lt : ∀ {t : List (Int × Int × Int)}, sortedB t = true → (∀ x ∈ t, x.1 ≤ x.2.1) ∧ t.Pairwise (fun x y => x.2.1 < y.1)
  | [], _ => ⟨by simp, .nil⟩
  | [x], h => ⟨by simpa [sortedB] using h, by simp⟩
  | x :: y :: r, h => by
    simp only [sortedB, Bool.and_eq_true, decide_eq_true_eq] at h
    obtain ⟨⟨h1, h2⟩, h3⟩ := h
    obtain ⟨k1, k2⟩ := sorted_lt h3
    refine ⟨fun z hz => ?_, List.pairwise_cons.2 ⟨fun z hz => ?_, k2⟩⟩
    · rcases List.mem_cons.1 hz with rfl | hz
      · exact h1
      · exact k1 z hz
    · rcases List.mem_cons.1 hz with rfl | hz
      · exact h2
      · have := (List.pairwise_cons.1 k2).1 z hz
        have := k1 y (by simp)
        omega

theorem sorted_idx {t : List (Int × Int × Int)} (h : sortedB t = true) {i j : Nat} {x y : Int × Int × Int} (hi : t[i]? = some x) (hj : t[j]? = some y) (hij : i < j) : x.2.1 < y.1 := by
  obtain ⟨hi', rfl⟩ := List.getElem?_eq_some_iff.1 hi
  obtain ⟨hj', rfl⟩ := List.getElem?_eq_some_iff.1 hj
  exact List.pairwise_iff_getElem.1 (sorted_lt h).2 i j hi' hj' hij

theorem has_uniq {t : List (Int × Int × Int)} (h : sortedB t = true) {r o v w : Int} (hv : Has t r o v) (hw : Has t r o w) : v = w := by
  rcases hv with ⟨x, hx, x1, x2, rfl⟩ | ⟨rfl, hv⟩
  · rcases hw with ⟨y, hy, y1, y2, rfl⟩ | ⟨rfl, hw⟩
    · obtain ⟨i, hi⟩ := List.getElem?_of_mem hx
      obtain ⟨j, hj⟩ := List.getElem?_of_mem hy
      rcases Nat.lt_trichotomy i j with hij | hij | hij
      · have := sorted_idx h hi hj hij; omega
      · subst hij; rw [hi] at hj; cases hj; rfl
      · have := sorted_idx h hj hi hij; omega
    · exact absurd ⟨x1, x2⟩ (hw x hx)
  · rcases hw with ⟨y, hy, y1, y2, rfl⟩ | ⟨rfl, hw⟩
    · exact absurd ⟨y1, y2⟩ (hv y hy)
    · rfl

theorem finds_has {t : List (Int × Int × Int)} (h : sortedB t = true) (r o : Int) : Has t r o (finds t r o) := by
  have key : ∀ (n lo hi : Nat), hi ≤ t.length → lo ≤ hi → hi - lo < n → (∀ (i : Nat) (x : Int × Int × Int), t[i]? = some x → i < lo → x.2.1 < r) → (∀ (i : Nat) (x : Int × Int × Int), t[i]? = some x → hi ≤ i → r < x.1) → Has t r o (findB t r o n lo hi) := by
    intro n
    induction n with
    | zero => intro lo hi _ _ h; omega
    | succ n ih =>
      intro lo hi hh hlh hlt hlo hhi
      by_cases hl : lo < hi
      · have hm : (lo + hi) / 2 < t.length := by omega
        have hx : t[(lo + hi) / 2]? = some (t[(lo + hi) / 2]) := List.getElem?_eq_getElem hm
        generalize t[(lo + hi) / 2] = x at hx
        have hf : findB t r o (n + 1) lo hi = if r < x.1 then findB t r o n lo ((lo + hi) / 2) else if r > x.2.1 then findB t r o n ((lo + hi) / 2 + 1) hi else x.2.2 := by
          show (if lo < hi then (match t[(lo + hi) / 2]? with | some x => if r < x.1 then findB t r o n lo ((lo + hi) / 2) else if r > x.2.1 then findB t r o n ((lo + hi) / 2 + 1) hi else x.2.2 | none => o) else o) = _
          rw [if_pos hl, hx]
        rw [hf]
        split
        · rename_i h1
          refine ih lo _ (by omega) (by omega) (by omega) hlo fun i y hy hi' => ?_
          rcases Nat.lt_or_ge ((lo + hi) / 2) i with hlt | hge
          · have := sorted_idx h hx hy hlt
            have := (sorted_lt h).1 x (List.mem_of_getElem? hx)
            omega
          · have : i = (lo + hi) / 2 := by omega
            subst this
            rw [hx] at hy; cases hy; exact h1
        · split
          · rename_i h2
            refine ih _ hi hh (by omega) (by omega) (fun i y hy hi' => ?_) hhi
            rcases Nat.lt_or_ge i ((lo + hi) / 2) with hlt | hge
            · have := sorted_idx h hy hx hlt
              have := (sorted_lt h).1 x (List.mem_of_getElem? hx)
              omega
            · have : i = (lo + hi) / 2 := by omega
              subst this
              rw [hx] at hy; cases hy; exact h2
          · exact .inl ⟨x, List.mem_of_getElem? hx, by omega, by omega, rfl⟩
      · have hf : findB t r o (n + 1) lo hi = o := by
          show (if lo < hi then _ else o) = o
          rw [if_neg hl]
        rw [hf]
        refine .inr ⟨rfl, fun x hx hc => ?_⟩
        obtain ⟨i, hi'⟩ := List.getElem?_of_mem hx
        rcases Nat.lt_or_ge i lo with h1 | h1
        · have := hlo i x hi' h1; omega
        · have := hhi i x hi' (by omega); omega
  exact key (t.length + 1) 0 t.length (by omega) (by omega) (by omega) (fun i x _ h => by omega) (fun i x hx hi => by rw [List.getElem?_eq_none hi] at hx; cases hx)

theorem finds_mem {t : List (Int × Int × Int)} (h : sortedB t = true) (r o : Int) (P : Int → Prop) (ho : P o) (ht : ∀ x ∈ t, P x.2.2) : P (finds t r o) := by
  rcases finds_has h r o with ⟨x, hx, _, _, e⟩ | ⟨e, _⟩
  · rw [e]; exact ht x hx
  · rw [e]; exact ho

end Go.Proofs.Ytbahobcalimoiaa
