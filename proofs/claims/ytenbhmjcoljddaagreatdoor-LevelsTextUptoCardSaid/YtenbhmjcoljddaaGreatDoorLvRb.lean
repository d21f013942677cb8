import Derived.Test.YtenbhmjcoljddaaGreatDoorLvZ
namespace Go.Proofs.YtenbhmjcoljddaaGreatDoor.Bd
set_option linter.all false
def Has (t : List (Int × Int × Int)) (r o v : Int) : Prop := (∃ x ∈ t, x.1 ≤ r ∧ r ≤ x.2.1 ∧ v = x.2.2) ∨ (v = o ∧ ∀ x ∈ t, ¬ (x.1 ≤ r ∧ r ≤ x.2.1))
def sortedB : List (Int × Int × Int) → Bool
 | [] => true
 | [x] => decide (x.1 ≤ x.2.1)
 | x :: y :: r => decide (x.1 ≤ x.2.1) && decide (x.2.1 < y.1) && sortedB (y :: r)
theorem sorted_lt : ∀ {t : List (Int × Int × Int)}, sortedB t = true → (∀ x ∈ t, x.1 ≤ x.2.1) ∧ t.Pairwise (fun x y => x.2.1 < y.1)
 | [], _ => ⟨by simp, .nil⟩
 | [x], h => ⟨by simpa [sortedB] using h, by simp⟩
 | x :: y :: r, h => by
  simp only [sortedB, Bool.and_eq_true, decide_eq_true_eq] at h
  obtain ⟨⟨h1, h2⟩, h3⟩ := h
  obtain ⟨k1, k2⟩ := sorted_lt h3
  refine ⟨fun z hz => ?_, List.pairwise_cons.2 ⟨fun z hz => ?_, k2⟩⟩
  ·rcases List.mem_cons.1 hz with rfl | hz
   ·exact h1
   ·exact k1 z hz
  ·rcases List.mem_cons.1 hz with rfl | hz
   ·exact h2
   ·have := (List.pairwise_cons.1 k2).1 z hz
    have := k1 y (by simp)
    omega
theorem sorted_idx {t : List (Int × Int × Int)} (h : sortedB t = true) {i j : Nat} {x y : Int × Int × Int} (hi : t[i]? = some x) (hj : t[j]? = some y) (hij : i < j) : x.2.1 < y.1 := by
 obtain ⟨hi', rfl⟩ := List.getElem?_eq_some_iff.1 hi
 obtain ⟨hj', rfl⟩ := List.getElem?_eq_some_iff.1 hj
 exact List.pairwise_iff_getElem.1 (sorted_lt h).2 i j hi' hj' hij
theorem has_uniq {t : List (Int × Int × Int)} (h : sortedB t = true) {r o v w : Int} (hv : Has t r o v) (hw : Has t r o w) : v = w := by
 rcases hv with ⟨x, hx, x1, x2, rfl⟩ | ⟨rfl, hv⟩
 ·rcases hw with ⟨y, hy, y1, y2, rfl⟩ | ⟨rfl, hw⟩
  ·obtain ⟨i, hi⟩ := List.getElem?_of_mem hx
   obtain ⟨j, hj⟩ := List.getElem?_of_mem hy
   rcases Nat.lt_trichotomy i j with hij | hij | hij
   ·have := sorted_idx h hi hj hij; omega
   ·subst hij; rw [hi] at hj; cases hj; rfl
   ·have := sorted_idx h hj hi hij; omega
  ·exact absurd ⟨x1, x2⟩ (hw x hx)
 ·rcases hw with ⟨y, hy, y1, y2, rfl⟩ | ⟨rfl, hw⟩
  ·exact absurd ⟨y1, y2⟩ (hv y hy)
  ·rfl
theorem finds_has {t : List (Int × Int × Int)} (h : sortedB t = true) (r o : Int) : Has t r o (finds t r o) := by
 have key : ∀ (n lo hi : Nat), hi ≤ t.length → lo ≤ hi → hi - lo < n → (∀ (i : Nat) (x : Int × Int × Int), t[i]? = some x → i < lo → x.2.1 < r) → (∀ (i : Nat) (x : Int × Int × Int), t[i]? = some x → hi ≤ i → r < x.1) → Has t r o (findB t r o n lo hi) := by
  intro n
  induction n with
  | zero => intro lo hi _ _ h; omega
  | succ n ih =>
   intro lo hi hh hlh hlt hlo hhi
   by_cases hl : lo < hi
   ·have hm : (lo + hi) / 2 < t.length := by omega
    have hx : t[(lo + hi) / 2]? = some (t[(lo + hi) / 2]) := List.getElem?_eq_getElem hm
    generalize t[(lo + hi) / 2] = x at hx
    have hf : findB t r o (n + 1) lo hi = if r < x.1 then findB t r o n lo ((lo + hi) / 2) else if r > x.2.1 then findB t r o n ((lo + hi) / 2 + 1) hi else x.2.2 := by
     show (if lo < hi then (match t[(lo + hi) / 2]? with | some x => if r < x.1 then findB t r o n lo ((lo + hi) / 2) else if r > x.2.1 then findB t r o n ((lo + hi) / 2 + 1) hi else x.2.2 | none => o) else o) = _
     rw [if_pos hl, hx]
    rw [hf]
    split
    ·rename_i h1
     refine ih lo _ (by omega) (by omega) (by omega) hlo fun i y hy hi' => ?_
     rcases Nat.lt_or_ge ((lo + hi) / 2) i with hlt | hge
     ·have := sorted_idx h hx hy hlt
      have := (sorted_lt h).1 x (List.mem_of_getElem? hx)
      omega
     ·have : i = (lo + hi) / 2 := by omega
      subst this
      rw [hx] at hy; cases hy; exact h1
    ·split
     ·rename_i h2
      refine ih _ hi hh (by omega) (by omega) (fun i y hy hi' => ?_) hhi
      rcases Nat.lt_or_ge i ((lo + hi) / 2) with hlt | hge
      ·have := sorted_idx h hy hx hlt
       have := (sorted_lt h).1 x (List.mem_of_getElem? hx)
       omega
      ·have : i = (lo + hi) / 2 := by omega
       subst this
       rw [hx] at hy; cases hy; exact h2
     ·exact .inl ⟨x, List.mem_of_getElem? hx, by omega, by omega, rfl⟩
   ·have hf : findB t r o (n + 1) lo hi = o := by
     show (if lo < hi then _ else o) = o
     rw [if_neg hl]
    rw [hf]
    refine .inr ⟨rfl, fun x hx hc => ?_⟩
    obtain ⟨i, hi'⟩ := List.getElem?_of_mem hx
    rcases Nat.lt_or_ge i lo with h1 | h1
    ·have := hlo i x hi' h1; omega
    ·have := hhi i x hi' (by omega); omega
 exact key (t.length + 1) 0 t.length (by omega) (by omega) (by omega) (fun i x _ h => by omega) (fun i x hx hi => by rw [List.getElem?_eq_none hi] at hx; cases hx)
theorem finds_mem {t : List (Int × Int × Int)} (h : sortedB t = true) (r o : Int) (P : Int → Prop) (ho : P o) (ht : ∀ x ∈ t, P x.2.2) : P (finds t r o) := by
 rcases finds_has h r o with ⟨x, hx, _, _, e⟩ | ⟨e, _⟩
 ·rw [e]; exact ht x hx
 ·rw [e]; exact ho
theorem bidicT_sorted : sortedB bidicT = true := by kernel_rfl
theorem bidicT_max : (bidicT.all fun x => decide (x.2.2 ≤ 22)) = true := by kernel_rfl
def r3 (x : Int × Int × Int) : List Int := [x.1, x.2.1, x.2.2]
theorem bidi_ref : ref04_Bidi_F = some (bidicT.map r3) := by kernel_rfl
theorem getD_mem {t : List (Int × Int × Int)} {k : Nat} (hk : k < t.length) : t.getD k (0, 0, 0) ∈ t := by
 simp [List.getD, hk]
theorem get_getD {t : List (Int × Int × Int)} {k : Nat} (hk : k < t.length) : t[k]? = some (t.getD k (0, 0, 0)) := by
 simp [List.getD, hk]
theorem idx_r3 {t : List (Int × Int × Int)} {i : Int} {k : Nat} (h : i = k) (hk : k < t.length) : idx (t.map r3) i = some (r3 (t.getD k (0, 0, 0))) := by
 rw [idx_get h (by rw [List.length_map]; exact hk)]
 simp [List.getD, hk]
theorem refFind_F (t : List (Int × Int × Int)) (r o : Int) (hs : sortedB t = true) (hn : t.length ≤ 1000000) : ref04_Find_F (t.map r3) r o = some (finds t r o) := by
 have hloop := loop_ex (L := fun s : List (List Int) × Int × Int × Int => ref04_Find_L2 s.1 s.2.1 s.2.2.1 s.2.2.2)
  (I := fun s => ∃ k : Nat, k ≤ t.length ∧ s = (t.map r3, r, o, (k : Int)) ∧ ∀ i, i < k → ¬ ((t.getD i (0, 0, 0)).1 ≤ r ∧ r ≤ (t.getD i (0, 0, 0)).2.1))
  (m := fun s => t.length - s.2.2.2.toNat) (R := fun z => z = .inl (finds t r o) ∨ z = .inr (finds t r o)) (s0 := (t.map r3, r, o, 0))
  (by
   rintro s ⟨k, hk, rfl, hno⟩
   dsimp only
   unfold ref04_Find_L2
   refine Post.br (fun hc => ?_) (fun hc => Post.pure (.inl ?_))
   ·rw [decide_eq_true_eq, List.length_map] at hc
    have hk2 : k < t.length := by omega
    have i0 : ∀ x, idx (r3 x) 0 = some x.1 := fun _ => rfl
    have i1 : ∀ x, idx (r3 x) 1 = some x.2.1 := fun _ => rfl
    have i2 : ∀ x, idx (r3 x) 2 = some x.2.2 := fun _ => rfl
    have next : ¬ ((t.getD k (0, 0, 0)).1 ≤ r ∧ r ≤ (t.getD k (0, 0, 0)).2.1) → (∃ k' : Nat, k' ≤ t.length ∧ (t.map r3, r, o, IntKind.i64.wrap ((k : Int) + 1)) = (t.map r3, r, o, (k' : Int)) ∧ ∀ i, i < k' → ¬ ((t.getD i (0, 0, 0)).1 ≤ r ∧ r ≤ (t.getD i (0, 0, 0)).2.1)) ∧ t.length - (IntKind.i64.wrap ((k : Int) + 1)).toNat < t.length - (k : Int).toNat := fun h => by
     refine ⟨⟨k + 1, hk2, by rw [wrap_succ (by omega)], fun i hi => ?_⟩, by rw [wrap_succ (by omega)]; omega⟩
     by_cases e : i = k
     ·subst e; exact h
     ·exact hno i (by omega)
    refine Post.bnd (idx_r3 rfl hk2) (Post.bnd (i0 _) (Post.br (fun c1 => ?_) (fun c1 => Post.pure (next ?_))))
    ·rw [decide_eq_true_eq] at c1
     refine Post.bnd (idx_r3 rfl hk2) (Post.bnd (i1 _) (Post.br (fun c2 => ?_) (fun c2 => Post.pure (next ?_))))
     ·rw [decide_eq_true_eq] at c2
      refine Post.bnd (idx_r3 rfl hk2) (Post.bnd (i2 _) (Post.pure (.inr ?_)))
      exact congrArg Sum.inr (has_uniq hs (.inl ⟨_, getD_mem hk2, c1, c2, rfl⟩) (finds_has hs r o))
     ·rw [decide_eq_false_iff_not] at c2
      exact fun h => c2 h.2
    ·rw [decide_eq_false_iff_not] at c1
     exact fun h => c1 h.1
   ·rw [decide_eq_false_iff_not, List.length_map] at hc
    refine congrArg Sum.inl (has_uniq hs (.inr ⟨rfl, fun x hx => ?_⟩) (finds_has hs r o))
    obtain ⟨i, hi⟩ := List.getElem?_of_mem hx
    have hil : i < t.length := by
     rcases Nat.lt_or_ge i t.length with h | h
     ·exact h
     ·rw [List.getElem?_eq_none h] at hi; cases hi
    have := hno i (by omega)
    rw [get_getD hil] at hi
    cases hi
    exact this)
  ⟨0, by omega, rfl, fun i hi => by omega⟩
 obtain ⟨z, hz, h | h⟩ := hloop
 ·subst h
  exact Post.run (Post.altL hz (Post.pure rfl))
 ·subst h
  exact Post.run (Post.altR hz (Post.pure rfl))
end Go.Proofs.YtenbhmjcoljddaaGreatDoor.Bd
