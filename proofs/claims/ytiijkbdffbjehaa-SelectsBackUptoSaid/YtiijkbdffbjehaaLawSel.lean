/-
  A line's places and widths, its bands and its cells.
-/
import Derived.Test.YtiijkbdffbjehaaLawSelP
namespace Go.Proofs.Ytiijkbdffbjehaa
set_option linter.all false

def lev (n : Int) : Int := if n % 8 = 7 then -1 else (n / 8) % 6
theorem levels_F (ns : List Int) (hn : ns.length ≤ 2097152) (h8 : ∀ n ∈ ns, 0 ≤ n ∧ n ≤ 255) : law12_Levels_F ns = some (tab ns.length fun i => lev (ns.getD i 0)) := by
  unfold law12_Levels_F law12_Levels_T
  refine Post.run (Post.bnd (count (L := fun s : List Int × List Int × Int => law12_Levels_L3 s.1 s.2.1 s.2.2) ns.length (fun k => (ns, tab k fun i => lev (ns.getD i 0), (k : Int))) rfl (fun k hk => ?_) ?_) (Post.pure rfl))
  · have hm : 0 ≤ ns.getD k 0 ∧ ns.getD k 0 ≤ 255 := by
      refine h8 _ ?_
      simp [List.getD, hk]
    dsimp only
    unfold law12_Levels_L3
    refine Post.brT (by rw [decide_eq_true_eq]; omega) (Post.idx 0 k rfl hk ?_)
    rw [Int.tmod_eq_emod_of_nonneg hm.1, wrap_succ (by omega), ← tab_succ]
    by_cases h : ns.getD k 0 % 8 = 7
    · (first | refine Post.brT (by simp only [Bool.or_eq_true, Bool.and_eq_true, beq_iff_eq, bne_iff_ne, decide_eq_true_eq, ne_eq, Bool.not_eq_true', beq_eq_false_iff_ne, bne_eq_false_iff_eq, decide_eq_false_iff_not, Decidable.not_not, Bool.or_eq_false_iff, Bool.and_eq_false_iff, Bool.not_eq_false']; omega) ?_ | refine Post.brF (by simp only [Bool.or_eq_true, Bool.and_eq_true, beq_iff_eq, bne_iff_ne, decide_eq_true_eq, ne_eq, Bool.not_eq_true', beq_eq_false_iff_ne, bne_eq_false_iff_eq, decide_eq_false_iff_not, Decidable.not_not, Bool.or_eq_false_iff, Bool.and_eq_false_iff, Bool.not_eq_false']; omega) ?_)
      refine Post.bnd (app_eq (by rw [tab_len]; simp; omega)) (Post.pure ?_)
      rw [show lev (ns.getD k 0) = -1 from if_pos h]
    · (first | refine Post.brT (by simp only [Bool.or_eq_true, Bool.and_eq_true, beq_iff_eq, bne_iff_ne, decide_eq_true_eq, ne_eq, Bool.not_eq_true', beq_eq_false_iff_ne, bne_eq_false_iff_eq, decide_eq_false_iff_not, Decidable.not_not, Bool.or_eq_false_iff, Bool.and_eq_false_iff, Bool.not_eq_false']; omega) ?_ | refine Post.brF (by simp only [Bool.or_eq_true, Bool.and_eq_true, beq_iff_eq, bne_iff_ne, decide_eq_true_eq, ne_eq, Bool.not_eq_true', beq_eq_false_iff_ne, bne_eq_false_iff_eq, decide_eq_false_iff_not, Decidable.not_not, Bool.or_eq_false_iff, Bool.and_eq_false_iff, Bool.not_eq_false']; omega) ?_)
      refine Post.idx 0 k rfl hk (Post.bnd (app_eq (by rw [tab_len]; simp; omega)) (Post.pure ?_))
      rw [show lev (ns.getD k 0) = _ from if_neg h, Int.tdiv_eq_ediv_of_nonneg hm.1, wrapU8 (by omega) (by omega), wrap64 (by omega) (by omega), Int.tmod_eq_emod_of_nonneg (by omega)]
  · dsimp only
    unfold law12_Levels_L3
    exact Post.brF (by simp) (Post.pure rfl)

/-! ### a line -/
structure Line (v w : List Int) : Prop where
  perm : v.Perm (tab w.length fun k => (k : Int))
  small : Small w
theorem Line.len {v w : List Int} (h : Line v w) : v.length = w.length := by rw [h.perm.length_eq, tab_len]
theorem vplaces_all (g : Nat → Int) : ∀ n, (∀ k, k < n → g k ≠ -1) → vplaces g n = tab n fun k => (k : Int)
  | 0, _ => rfl
  | n + 1, h => by
    rw [← tab_succ, ← vplaces_all g n (fun k hk => h k (by omega))]
    exact if_neg (h n (by omega))
theorem tab_nodup (n : Nat) : (tab n fun k => (k : Int)).Nodup := by
  rw [← vplaces_all (fun _ => 0) n (fun k _ => by decide)]
  exact vplaces_nodup _ _
theorem Line.nodup {v w : List Int} (h : Line v w) : v.Nodup := h.perm.nodup_iff.2 (tab_nodup _)
theorem Line.mem {v w : List Int} (h : Line v w) {k : Nat} (hk : k < w.length) : 0 ≤ v.getD k 0 ∧ v.getD k 0 < w.length := by
  have hm : v.getD k 0 ∈ v := by simp [List.getD, h.len ▸ hk]
  have := h.perm.mem_iff.1 hm
  simp only [tab, List.mem_map, List.mem_range] at this
  omega
theorem Line.inj {v w : List Int} (h : Line v w) {i j : Nat} (hi : i < w.length) (hj : j < w.length) (e : v.getD i 0 = v.getD j 0) : i = j := by
  have hl := h.len
  have hp := List.pairwise_iff_getElem.1 h.nodup
  simp only [List.getD, List.getElem?_eq_getElem (show i < v.length by omega), List.getElem?_eq_getElem (show j < v.length by omega), Option.getD_some] at e
  rcases Nat.lt_trichotomy i j with h1 | h1 | h1
  · exact absurd e (hp i j _ _ h1)
  · exact h1
  · exact absurd e.symm (hp j i _ _ h1)
theorem tab_filter (m : Nat) : ∀ n, m ≤ n → (tab n fun k => (k : Int)).filter (fun x => decide (x < (m : Int))) = tab m fun k => (k : Int)
  | 0, h => by
    rw [show m = 0 by omega]; rfl
  | n + 1, h => by
    by_cases e : m = n + 1
    · subst e
      refine List.filter_eq_self.2 fun a ha => ?_
      simp only [tab, List.mem_map, List.mem_range] at ha
      exact decide_eq_true (by omega)
    · rw [← tab_succ, List.filter_append, tab_filter m n (by omega)]
      simp; omega
theorem take_snoc {xs : List Int} {k : Nat} (hk : k < xs.length) : xs.take (k + 1) = xs.take k ++ [xs.getD k 0] := by
  rw [List.take_add_one, List.getElem?_eq_getElem hk]
  simp [List.getD, hk]

theorem line_F (ls ws : List Int) (hn : ls.length ≤ 2097152) (h8 : ∀ n ∈ ls, 0 ≤ n ∧ n ≤ 255) (hn2 : ws.length ≤ 2097152) (h82 : ∀ n ∈ ws, 0 ≤ n ∧ n ≤ 255) : ∃ v w, law35_Line_F ls ws = some (v, w) ∧ Line v w := by
  obtain ⟨w, hw, hs, hlen⟩ := widths_F ws hn2 h82
  have hL : ∀ k, k < (tab ls.length fun i => if lev (ls.getD i 0) > 0 then lev (ls.getD i 0) else 0).length → (tab ls.length fun i => if lev (ls.getD i 0) > 0 then lev (ls.getD i 0) else 0).getD k 0 ≠ -1 := fun k hk => by
    rw [tab_len] at hk
    rw [tab_getD _ _ hk]
    split <;> omega
  have hV := (vl_perm (tab ls.length fun i => if lev (ls.getD i 0) > 0 then lev (ls.getD i 0) else 0) (tp (fun i => (tab ls.length fun i => if lev (ls.getD i 0) > 0 then lev (ls.getD i 0) else 0).getD i 0) (tab ls.length fun i => if lev (ls.getD i 0) > 0 then lev (ls.getD i 0) else 0).length).toNat (vplaces (fun i => (tab ls.length fun i => if lev (ls.getD i 0) > 0 then lev (ls.getD i 0) else 0).getD i 0) (tab ls.length fun i => if lev (ls.getD i 0) > 0 then lev (ls.getD i 0) else 0).length))
  rw [vplaces_all _ _ hL] at hV
  have hvis := visual_F (tab ls.length fun i => if lev (ls.getD i 0) > 0 then lev (ls.getD i 0) else 0) (by rw [tab_len]; omega)
  unfold vis at hvis
  rw [vplaces_all _ _ hL] at hvis
  rw [tab_len] at hV hvis
  generalize vl _ _ _ = V at hV hvis
  have hVl : V.length = ls.length := by rw [hV.length_eq, tab_len]
  obtain ⟨m, hm⟩ : ∃ m, min w.length V.length = m := ⟨_, rfl⟩
  have hmin : (if (w.length : Int) < (V.length : Int) then (w.length : Int) else (V.length : Int)) = (m : Int) := by split <;> omega
  have hwl : (w.take m).length = m := by rw [List.length_take]; omega
  refine ⟨V.filter (fun x => decide (x < (m : Int))), w.take m, ?_, ?_, by rw [hwl]; omega, fun k => ?_⟩
  · unfold law35_Line_F law35_Line_T
    refine Post.run (Post.bnd (levels_F ls hn h8) (Post.bnd (count (L := fun s : List Int × List Int × Int × Int => law35_Line_L3 s.1 s.2.1 s.2.2.1 s.2.2.2) ls.length (fun k => (ws, tab ls.length (part (fun i => if lev (ls.getD i 0) > 0 then lev (ls.getD i 0) else 0) (fun i => lev (ls.getD i 0)) k), (ls.length : Int), (k : Int))) (r := (ws, tab ls.length fun i => if lev (ls.getD i 0) > 0 then lev (ls.getD i 0) else 0)) ?_ (fun k hk => ?_) ?_) ?_))
    · rw [part_zero, tab_len]; rfl
    · dsimp only
      unfold law35_Line_L3
      refine Post.brT (by rw [decide_eq_true_eq]; omega) (ptab k rfl hk (ptab k rfl hk (Post.pure ?_)))
      rw [part_at, toNat_nat, wrap_succ (by omega), part_set _ rfl]
    · dsimp only
      unfold law35_Line_L3
      refine Post.brF (by simp) (Post.pure ?_)
      rw [part_end]
    · dsimp only
      refine Post.bnd hvis (Post.bnd hw ?_)
      rw [hmin]
      refine Post.bnd (count (L := fun s : List Int × Int × List Int × List Int × Int × Int => law35_Line_L11 s.1 s.2.1 s.2.2.1 s.2.2.2.1 s.2.2.2.2.1 s.2.2.2.2.2) V.length (fun k => (w, (m : Int), (V.take k).filter (fun x => decide (x < (m : Int))), V, (V.length : Int), (k : Int))) (r := (w, (m : Int), V.filter (fun x => decide (x < (m : Int))))) rfl (fun k hk => ?_) ?_) ?_
      · dsimp only
        unfold law35_Line_L11
        refine Post.brT (by rw [decide_eq_true_eq]; omega) (Post.idx 0 k rfl hk ?_)
        rw [take_snoc hk, List.filter_append, wrap_succ (by omega)]
        have hfl := List.length_filter_le (fun x => decide (x < (m : Int))) (V.take k)
        have htl : (V.take k).length ≤ k := by rw [List.length_take]; omega
        by_cases h : V.getD k 0 < (m : Int)
        · refine Post.brT (decide_eq_true h) (Post.bnd (app_eq (by simp only [List.length_cons, List.length_nil]; omega)) (Post.pure ?_))
          rw [show [V.getD k 0].filter (fun x => decide (x < (m : Int))) = [V.getD k 0] from List.filter_eq_self.2 fun a ha => by rw [List.mem_singleton] at ha; subst ha; exact decide_eq_true h]
        · refine Post.brF (decide_eq_false h) (Post.pure ?_)
          rw [show [V.getD k 0].filter (fun x => decide (x < (m : Int))) = [] from List.filter_eq_nil_iff.2 fun a ha => by rw [List.mem_singleton] at ha; subst ha; simpa using h, List.append_nil]
      · dsimp only
        unfold law35_Line_L11
        refine Post.brF (by simp) (Post.pure ?_)
        rw [List.take_length]
      · dsimp only
        exact Post.bnd (cut_take rfl (by omega)) (Post.pure rfl)
  · rw [hwl]
    refine (hV.filter _).trans ?_
    rw [tab_filter m _ (by omega)]
  · by_cases hk : k < m
    · rw [take_getD 0 hk]; exact hs.2 k
    · rw [getD_len (by omega)]; omega

/-! ### cells -/
def owns (v : List Int) (f t : Int) (k : Nat) : Bool := decide (f ≤ v.getD k 0 ∧ v.getD k 0 < t)
def cel (v w : List Int) (f t c : Int) : Bool := (List.range w.length).any fun k => decide (pre w k ≤ c ∧ c < pre w (k + 1)) && owns v f t k
theorem cel_at {v w : List Int} (hs : Small w) (f t : Int) {c : Int} {k : Nat} (hk : k < w.length) (h1 : pre w k ≤ c) (h2 : c < pre w (k + 1)) : cel v w f t c = owns v f t k := by
  rw [Bool.eq_iff_iff]
  unfold cel
  simp only [List.any_eq_true, List.mem_range, Bool.and_eq_true, decide_eq_true_eq]
  constructor
  · rintro ⟨i, hi, ⟨h3, h4⟩, h5⟩
    rcases Nat.lt_trichotomy i k with e | e | e
    · have := pre_mono hs (i := i + 1) (j := k) (by omega) (by omega)
      omega
    · exact e ▸ h5
    · have := pre_mono hs (i := k + 1) (j := i) (by omega) (by omega)
      omega
  · exact fun h => ⟨k, hk, ⟨h1, h2⟩, h⟩

theorem cover_F {v w : List Int} (h : Line v w) (f t : Int) : law35_cover_F v w f t = some (tab (pre w w.length).toNat fun c => cel v w f t (c : Int)) := by
  have hl := h.len
  have hs := h.small
  have hn := hs.1
  unfold law35_cover_F law35_cover_T
  refine Post.run (Post.bnd (count (L := fun s : List Int × List Int × Int × Int × List Bool × Int => law35_cover_L3 s.1 s.2.1 s.2.2.1 s.2.2.2.1 s.2.2.2.2.1 s.2.2.2.2.2) w.length (fun k => (v, w, f, t, tab (pre w k).toNat fun c => cel v w f t (c : Int), (k : Int))) rfl (fun k hk => ?_) ?_) (Post.pure rfl))
  · dsimp only
    have h1 := pre_small hs k (by omega)
    have h2 := pre_next hs hk
    have h3 := hs.2 k
    unfold law35_cover_L3
    refine Post.brT (by rw [decide_eq_true_eq]; omega) (Post.brT (by rw [decide_eq_true_eq]; omega) ?_)
    refine Post.bnd (count (L := fun s : List Int × List Int × Int × Int × List Bool × Int × Int => law35_cover_L6 s.1 s.2.1 s.2.2.1 s.2.2.2.1 s.2.2.2.2.1 s.2.2.2.2.2.1 s.2.2.2.2.2.2) (w.getD k 0).toNat (fun i => (v, w, f, t, tab ((pre w k).toNat + i) fun c => cel v w f t (c : Int), (k : Int), (i : Int))) (r := (v, w, f, t, tab (pre w (k + 1)).toNat fun c => cel v w f t (c : Int), (k : Int))) rfl (fun i hi => ?_) ?_) ?_
    · dsimp only
      unfold law35_cover_L6
      have hc := cel_at (v := v) hs f t (c := (((pre w k).toNat + i : Nat) : Int)) hk (by omega) (by omega)
      refine Post.idx 0 k rfl hk (Post.brT (by rw [decide_eq_true_eq]; omega) (Post.idx 0 k rfl (by omega) ?_))
      rw [wrap_succ (by omega), ← Nat.add_assoc, ← tab_succ, hc]
      unfold owns
      by_cases hq : v.getD k 0 ≥ f
      · refine Post.brT (decide_eq_true hq) (Post.idx 0 k rfl (by omega) (Post.bnd (app_eq (by rw [tab_len]; simp; omega)) (Post.pure ?_)))
        have hq : f ≤ v.getD k 0 := hq
        simp only [hq, true_and]
      · refine Post.brF (decide_eq_false hq) (Post.bnd (app_eq (by rw [tab_len]; simp; omega)) (Post.pure ?_))
        have hq : ¬ f ≤ v.getD k 0 := hq
        simp only [hq, false_and, decide_false]
    · dsimp only
      unfold law35_cover_L6
      refine Post.idx 0 k rfl hk (Post.brF (by rw [decide_eq_false_iff_not]; omega) (Post.pure ?_))
      rw [show (pre w k).toNat + (w.getD k 0).toNat = (pre w (k + 1)).toNat by omega]
    · dsimp only
      exact Post.pure (by rw [wrap_succ (by omega)])
  · dsimp only
    unfold law35_cover_L3
    exact Post.brF (by rw [decide_eq_false_iff_not]; omega) (Post.pure rfl)

/-! ### bands -/
def bend (l : Int) : List (Int × Int) → Int
  | [] => l
  | b :: bs => bend b.2 bs
def Pb (C : Int → Bool) (l : Int) : List (Int × Int) → Prop
  | [] => True
  | b :: bs => l < b.1 ∧ b.1 < b.2 ∧ (∀ c, l ≤ c → 0 ≤ c → c < b.2 → C c = decide (b.1 ≤ c)) ∧ Pb C b.2 bs
def sumc : List (Int × Int) → Int
  | [] => 0
  | b :: bs => (b.2 - b.1) + sumc bs
theorem bend_app : ∀ (A B : List (Int × Int)) (l : Int), bend l (A ++ B) = bend (bend l A) B
  | [], _, _ => rfl
  | _ :: A, B, _ => bend_app A B _
theorem Pb_app {C : Int → Bool} : ∀ (A B : List (Int × Int)) (l : Int), Pb C l (A ++ B) ↔ Pb C l A ∧ Pb C (bend l A) B
  | [], B, l => by simp [Pb, bend]
  | b :: A, B, l => by
    have := Pb_app (C := C) A B b.2
    show (_ ∧ _ ∧ _ ∧ Pb C b.2 (A ++ B)) ↔ (_ ∧ _ ∧ _ ∧ Pb C b.2 A) ∧ Pb C (bend b.2 A) B
    rw [this]
    simp only [and_assoc]
theorem sumc_app : ∀ (A B : List (Int × Int)), sumc (A ++ B) = sumc A + sumc B
  | [], B => by simp [sumc]
  | b :: A, B => by
    have := sumc_app A B
    show b.2 - b.1 + sumc (A ++ B) = b.2 - b.1 + sumc A + sumc B
    omega
theorem Pb_le {C : Int → Bool} : ∀ (A : List (Int × Int)) (l : Int), Pb C l A → 0 ≤ sumc A ∧ l + sumc A ≤ bend l A
  | [], l, _ => by simp [sumc, bend]
  | b :: A, l, h => by
    have := Pb_le A b.2 h.2.2.2
    have h1 := h.1
    have h2 := h.2.1
    show 0 ≤ b.2 - b.1 + sumc A ∧ l + (b.2 - b.1 + sumc A) ≤ bend b.2 A
    omega
theorem idxm {α : Type} {A B : List α} {x : α} {i : Int} (h : i = A.length) : idx (A ++ x :: B) i = some x := by
  rw [idx_get h (by simp)]
  simp
theorem set_mid {α : Type} {A B : List α} {x y : α} {n : Nat} (h : n = A.length) : (A ++ x :: B).set n y = A ++ y :: B := by
  subst h
  simp
theorem snoc_cases {α : Type} (xs : List α) : xs = [] ∨ ∃ A x, xs = A ++ [x] := by
  rcases List.eq_nil_or_concat xs with h | ⟨A, x, h⟩
  · exact .inl h
  · exact .inr ⟨A, x, by simpa using h⟩

/-- what bands are -/
structure Bands (v w : List Int) (f t : Int) (n : Nat) (bs : List (Int × Int)) : Prop where
  pb : Pb (cel v w f t) (-1) bs
  le : bend (-1) bs ≤ pre w n
  rest : ∀ c, bend (-1) bs ≤ c → 0 ≤ c → c < pre w n → cel v w f t c = false
  len : bs.length ≤ n

theorem bands_F {v w : List Int} (h : Line v w) (f t : Int) : ∃ bs, selects_Bands_F v w f t = some bs ∧ Bands v w f t w.length bs := by
  have hl := h.len
  have hs := h.small
  have hn := hs.1
  have hmin : (if (w.length : Int) < (v.length : Int) then (w.length : Int) else (v.length : Int)) = (w.length : Int) := by split <;> omega
  have hloop := loop_ex (L := fun s : List Int × Int × Int × List Int × List (Int × Int) × List Int × Int × Int => selects_Bands_L5 s.1 s.2.1 s.2.2.1 s.2.2.2.1 s.2.2.2.2.1 s.2.2.2.2.2.1 s.2.2.2.2.2.2.1 s.2.2.2.2.2.2.2)
    (I := fun s => ∃ (k : Nat) (bs : List (Int × Int)), k ≤ w.length ∧ s = (w, f, t, tab w.length (pre w), bs, v, (v.length : Int), (k : Int)) ∧ Bands v w f t k bs)
    (m := fun s => (w.length : Int).toNat - s.2.2.2.2.2.2.2.toNat) (R := fun bs => Bands v w f t w.length bs) (s0 := (w, f, t, tab w.length (pre w), [], v, (v.length : Int), 0))
    (by
      rintro s ⟨k, bs, hkn, rfl, hb⟩
      dsimp only
      have hbl := hb.len
      by_cases hk : k < w.length
      · have h1 := pre_small hs k (by omega)
        have h2 := pre_next hs hk
        have h3 := hs.2 k
        have hm : (w.length : Int).toNat - ((k + 1 : Nat) : Int).toNat < (w.length : Int).toNat - (k : Int).toNat := by omega
        have skip : (∀ c, pre w k ≤ c → c < pre w (k + 1) → cel v w f t c = false) → Bands v w f t (k + 1) bs := fun hc =>
          ⟨hb.pb, by have := hb.le; omega, fun c c1 c2 c3 => by
            by_cases e : c < pre w k
            · exact hb.rest c c1 c2 e
            · exact hc c (by omega) c3, by omega⟩
        have at_ : ∀ c, pre w k ≤ c → c < pre w (k + 1) → cel v w f t c = owns v f t k := fun c c1 c2 => cel_at hs f t hk c1 c2
        unfold selects_Bands_L5
        rw [wrap_succ (by omega), wrap64 (n := (bs.length : Int) - 1) (by omega) (by omega)]
        refine Post.brT (by rw [decide_eq_true_eq]; omega) (Post.idx 0 k rfl (by omega) (Post.idx 0 k rfl hk ?_))
        refine Post.br (fun hw0 => Post.pure ⟨⟨k + 1, bs, by omega, rfl, skip fun c c1 c2 => ?_⟩, hm⟩) (fun hw0 => ?_)
        · rw [decide_eq_true_eq] at hw0; omega
        rw [decide_eq_false_iff_not] at hw0
        refine Post.br (fun hf => Post.pure ⟨⟨k + 1, bs, by omega, rfl, skip fun c c1 c2 => ?_⟩, hm⟩) (fun hf => ?_)
        · rw [decide_eq_true_eq] at hf
          rw [at_ c c1 c2]
          exact decide_eq_false (by omega)
        rw [decide_eq_false_iff_not] at hf
        refine Post.br (fun ht => Post.pure ⟨⟨k + 1, bs, by omega, rfl, skip fun c c1 c2 => ?_⟩, hm⟩) (fun ht => ?_)
        · rw [decide_eq_true_eq] at ht
          rw [at_ c c1 c2]
          exact decide_eq_false (by omega)
        rw [decide_eq_false_iff_not] at ht
        have yes : ∀ c, pre w k ≤ c → c < pre w (k + 1) → cel v w f t c = true := fun c c1 c2 => by
          rw [at_ c c1 c2]
          exact decide_eq_true (by omega)
        refine ptab k rfl hk (ptab k rfl hk (Post.idx 0 k rfl hk ?_))
        rw [wrap64 (n := pre w k + w.getD k 0) (by omega) (by omega), ← h2]
        have new : bend (-1) bs < pre w k → Bands v w f t (k + 1) (bs ++ [(pre w k, pre w (k + 1))]) := fun hlt =>
          ⟨(Pb_app _ _ _).2 ⟨hb.pb, hlt, by dsimp only; omega, fun c c1 c2 c3 => by
              dsimp only at c3 ⊢
              by_cases e : c < pre w k
              · rw [hb.rest c c1 c2 e]
                exact (decide_eq_false (by omega)).symm
              · rw [yes c (by omega) c3]
                exact (decide_eq_true (by omega)).symm, trivial⟩,
            by rw [bend_app]; exact Int.le_refl _, fun c c1 c2 c3 => by rw [bend_app] at c1; simp only [bend] at c1; omega, by rw [List.length_append, List.length_singleton]; omega⟩
        rcases snoc_cases bs with e | ⟨A, b, e⟩
        · subst e
          refine Post.brF (by rfl) (Post.bnd (app_eq (by simp)) (Post.pure ⟨⟨k + 1, _, by omega, rfl, new ?_⟩, hm⟩))
          show -1 < pre w k
          omega
        · have hbe : bend (-1) bs = b.2 := by rw [e, bend_app]; rfl
          have hl1 : bs.length = A.length + 1 := by rw [e]; simp
          have hi : idx bs ((bs.length : Int) - 1) = some b := by
            rw [show ((bs.length : Int) - 1) = (A.length : Int) by omega, e]
            exact idxm rfl
          refine Post.brT (by rw [decide_eq_true_eq]; omega) (Post.bnd hi (Post.br (fun hq => ?_) (fun hq => ?_)))
          · have hq : b.2 = pre w k := by simpa using hq
            refine Post.bnd hi (Post.bnd hi (Post.pure ⟨⟨k + 1, A ++ [(b.1, pre w (k + 1))], by omega, ?_, ?_⟩, hm⟩))
            · rw [show Int.toNat ((bs.length : Int) - 1) = A.length by omega]
              congr 5
              rw [e]
              exact set_mid rfl
            · have hp := hb.pb
              rw [e] at hp
              have hp := (Pb_app A [b] (-1)).1 hp
              have hp2 : bend (-1) A < b.1 ∧ b.1 < b.2 ∧ (∀ c, bend (-1) A ≤ c → 0 ≤ c → c < b.2 → cel v w f t c = decide (b.1 ≤ c)) ∧ True := hp.2
              refine ⟨(Pb_app _ _ _).2 ⟨hp.1, hp2.1, ?_, fun c c1 c2 c3 => ?_, trivial⟩, ?_, fun c c1 c2 c3 => ?_, ?_⟩
              · dsimp only; omega
              · dsimp only at c3 ⊢
                by_cases e3 : c < b.2
                · exact hp2.2.2.1 c c1 c2 e3
                · rw [yes c (by omega) c3]
                  exact (decide_eq_true (by omega)).symm
              · rw [bend_app]; exact Int.le_refl _
              · rw [bend_app] at c1; simp only [bend] at c1; omega
              · rw [List.length_append, List.length_singleton]; omega
          · have hq : b.2 ≠ pre w k := by simpa using hq
            have := hb.le
            exact Post.bnd (app_eq (by simp only [List.length_cons, List.length_nil]; omega)) (Post.pure ⟨⟨k + 1, _, by omega, rfl, new (by omega)⟩, hm⟩)
      · unfold selects_Bands_L5
        have : k = w.length := by omega
        subst this
        exact Post.brF (by rw [decide_eq_false_iff_not]; omega) (Post.pure hb))
    ⟨0, [], by omega, rfl, trivial, by simp [bend, pre_zero], fun c c1 c2 c3 => by rw [pre_zero] at c3; omega, by simp⟩
  obtain ⟨bs, hr, hb⟩ := hloop
  refine ⟨bs, ?_, hb⟩
  unfold selects_Bands_F selects_Bands_T
  rw [hmin]
  have ht : w.take w.length = w := List.take_length
  have ht2 : v.take w.length = v := by rw [← hl]; exact List.take_length
  have c1 := cut_take (xs := w) (hi := (w.length : Int)) rfl (Nat.le_refl _)
  have c2 := cut_take (xs := v) (hi := (w.length : Int)) rfl (by omega)
  rw [ht] at c1
  rw [ht2] at c2
  exact Post.run (Post.bnd c1 (Post.bnd (starts_F w hn) (Post.bnd c2 (Post.bnd hr (Post.pure rfl)))))

theorem sum_F {C : Int → Bool} {bs : List (Int × Int)} (hp : Pb C (-1) bs) (hb : bend (-1) bs ≤ 16777216) (hn : bs.length ≤ 4194304) : selects_Cells_F bs = some (sumc bs) := by
  have hloop := loop_ex (L := fun s : Int × List (Int × Int) × Int × Int => selects_Cells_L3 s.1 s.2.1 s.2.2.1 s.2.2.2)
    (I := fun s => ∃ A B : List (Int × Int), bs = A ++ B ∧ s = (sumc A, bs, (bs.length : Int), (A.length : Int)))
    (m := fun s => bs.length - s.2.2.2.toNat) (R := fun r => r = sumc bs) (s0 := (0, bs, (bs.length : Int), 0))
    (by
      rintro s ⟨A, B, e, rfl⟩
      dsimp only
      unfold selects_Cells_L3
      cases B with
      | nil =>
        rw [List.append_nil] at e
        subst e
        exact Post.brF (by simp) (Post.pure rfl)
      | cons b B =>
        have hl : bs.length = A.length + (B.length + 1) := by rw [e]; simp
        have hp2 := hp
        rw [e] at hp2
        have hpp := (Pb_app A (b :: B) (-1)).1 hp2
        have h1 := Pb_le A (-1) hpp.1
        have h2 := Pb_le B b.2 hpp.2.2.2.2
        have h3 := hpp.2.1
        have h4 := hpp.2.2.1
        have hbe : bend (-1) bs = bend b.2 B := by rw [e, bend_app]; rfl
        refine Post.brT (by rw [decide_eq_true_eq]; omega) (Post.bnd (show idx bs (A.length : Int) = some b by rw [e]; exact idxm rfl) (Post.bnd (b := b) rfl (Post.bnd (b := b) rfl (Post.pure ⟨⟨A ++ [b], B, by rw [e]; simp, ?_⟩, ?_⟩))))
        · rw [wrap64 (n := b.2 - b.1) (by omega) (by omega), wrap64 (n := sumc A + (b.2 - b.1)) (by omega) (by omega), wrap_succ (by omega), sumc_app, List.length_append, List.length_singleton]
          simp [sumc]
        · dsimp only
          rw [wrap_succ (by omega)]
          omega)
    ⟨[], bs, rfl, rfl⟩
  obtain ⟨r, hr, rfl⟩ := hloop
  unfold selects_Cells_F selects_Cells_T
  exact Post.run (Post.bnd hr (Post.pure rfl))

end Go.Proofs.Ytiijkbdffbjehaa
