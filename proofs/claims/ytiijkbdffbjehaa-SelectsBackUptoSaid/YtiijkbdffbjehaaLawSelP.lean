/-
  Which places have a cell of a part.
-/
import Derived.Test.YtiijkbdffbjehaaLawWidths
import Derived.Test.YtiijkbdffbjehaaLawVis
namespace Go.Proofs.Ytiijkbdffbjehaa
set_option linter.all false

/-- whether an item has a cell of the part -/
def has1 (v w : List Int) (pr : Nat → Int) (f t : Int) (p k : Nat) : Bool := decide (v.getD k 0 = (p : Int) ∧ 0 < w.getD k 0 ∧ f < t ∧ pr k < t ∧ f < pr k + w.getD k 0)
/-- whether one of the first items has -/
def has (v w : List Int) (pr : Nat → Int) (f t : Int) (p m : Nat) : Bool := (List.range m).any (has1 v w pr f t p)
theorem has_succ (v w : List Int) (pr : Nat → Int) (f t : Int) (p m : Nat) : has v w pr f t p (m + 1) = (has v w pr f t p m || has1 v w pr f t p m) := by
  simp [has, List.range_succ]
/-- the places that have, rising -/
def places (b : Nat → Bool) (n : Nat) : List Int := ((List.range n).filter b).map fun (p : Nat) => (p : Int)
theorem places_succ (b : Nat → Bool) (n : Nat) : places b (n + 1) = places b n ++ (if b n = true then [(n : Int)] else []) := by
  unfold places
  rw [List.range_succ, List.filter_append, List.map_append]
  congr 1
  by_cases h : b n = true <;> simp [h]
theorem places_len (b : Nat → Bool) (n : Nat) : (places b n).length ≤ n := by
  unfold places
  rw [List.length_map]
  exact Nat.le_trans (List.length_filter_le _ _) (by simp)

theorem loop13 (b : Nat → Bool) (n : Nat) (hn : n ≤ 4194304) : loopW (fun s : List Int × List Bool × Int × Int => (selects_Places_L13 s.1 s.2.1 s.2.2.1 s.2.2.2).run) ([], tab n b, (n : Int), 0) = some (places b n) := by
  have hl := loopW_count (f := fun s : List Int × List Bool × Int × Int => (selects_Places_L13 s.1 s.2.1 s.2.2.1 s.2.2.2).run) n (fun k => (places b k, tab n b, (n : Int), (k : Int))) (r := places b n) ?_ ?_
  · exact hl
  · intro k hk
    dsimp only
    have hp := places_len b k
    unfold selects_Places_L13
    rw [Tr.run_br, if_pos (by simp; omega), Tr.run_bnd_some (idx_tab rfl hk), Tr.run_br, wrap64 (by omega) (by omega), places_succ]
    by_cases h : b k = true
    · rw [if_pos h, if_pos h, Tr.run_bnd_some (app_eq (by simp only [List.length_cons, List.length_nil]; omega)), Tr.run_pure]
      rfl
    · rw [if_neg h, if_neg h, Tr.run_pure, List.append_nil]
      rfl
  · dsimp only
    unfold selects_Places_L13
    rw [Tr.run_br, if_neg (by simp), Tr.run_pure]

theorem same_F (xs : List Int) (hn : xs.length ≤ 4194304) : law25_Same_F xs xs = some true := by
  unfold law25_Same_F law25_Same_T
  have hl := loopW_count (f := fun s : List Int × List Int × Int => (law25_Same_L4 s.1 s.2.1 s.2.2).run) xs.length (fun k => (xs, xs, (k : Int))) (r := .inl ()) ?_ ?_
  · rw [show ((0 : Nat) : Int) = 0 from rfl] at hl
    rw [Tr.run_br, if_neg (by simp), Tr.run_alt_inl hl]
    rfl
  · intro k hk
    dsimp only
    unfold law25_Same_L4
    rw [Tr.run_br, if_pos (by simp; omega), Tr.run_bnd_some (idx_getD 0 rfl hk), Tr.run_bnd_some (idx_getD 0 rfl hk), Tr.run_br, if_neg (by simp), Tr.run_pure, wrap64 (by omega) (by omega)]
    rfl
  · dsimp only
    unfold law25_Same_L4
    rw [Tr.run_br, if_neg (by simp), Tr.run_pure]

theorem pre_take (w : List Int) (n : Nat) : ∀ k, k ≤ n → pre (w.take n) k = pre w k
  | 0, _ => rfl
  | k + 1, hk => by
    rw [pre_succ, pre_succ, pre_take w n k (by omega)]
    congr 2
    simp [List.getD, show k < n by omega]

theorem places_F (v w : List Int) (hw : Small w) (f t : Int) (n : Nat) (hN : min v.length w.length = n) : selects_Places_F v w f t = some (places (fun p => has v w (pre w) f t p n) n) := by
  unfold selects_Places_F selects_Places_T
  have hlen := hw.1
  have hmin : (if (w.length : Int) < (v.length : Int) then (w.length : Int) else (v.length : Int)) = (n : Int) := by split <;> omega
  have cutw : cut w 0 (n : Int) = some (w.take n) := by
    unfold cut
    rw [if_pos (by omega)]
    simp
  have cutv : cut v 0 (n : Int) = some (v.take n) := by
    unfold cut
    rw [if_pos (by omega)]
    simp
  have hlw : (w.take n).length = n := by rw [List.length_take]; omega
  have hlv : (v.take n).length = n := by rw [List.length_take]; omega
  rw [hmin, Tr.run_bnd_some cutw, Tr.run_bnd_some (starts_F (w.take n) (by omega)), Tr.run_bnd_some (mk_eq rfl (by omega)), Tr.run_bnd_some cutv, hlw, hlv, tab_rep, tab_congr (g := pre (w.take n)) (h := pre w) (fun k hk => pre_take w n k (by omega))]
  dsimp only
  have hl := loopW_count (f := fun s : List Int × Int × Int × Int × List Int × List Bool × List Int × Int × Int => (selects_Places_L5 s.1 s.2.1 s.2.2.1 s.2.2.2.1 s.2.2.2.2.1 s.2.2.2.2.2.1 s.2.2.2.2.2.2.1 s.2.2.2.2.2.2.2.1 s.2.2.2.2.2.2.2.2).run) n
    (fun m => (w, f, t, (n : Int), tab n (pre w), tab n (fun p => has v w (pre w) f t p m), v.take n, (n : Int), (m : Int))) (r := tab n (fun p => has v w (pre w) f t p n)) ?_ ?_
  · rw [show ((0 : Nat) : Int) = 0 from rfl, show (fun p => has v w (pre w) f t p 0) = fun _ => false from rfl] at hl
    rw [Tr.run_bnd_some hl, tab_len, Tr.run_bnd_some (loop13 _ n (by omega)), Tr.run_pure]
  · intro m hm
    dsimp only
    have hp := pre_next hw (k := m) (by omega)
    have hs := pre_small hw m (by omega)
    have h2 := hw.2 m
    have ev : idx (v.take n) (m : Int) = some (v.getD m 0) := by rw [idx_getD 0 rfl (by omega)]; simp [List.getD, hm]
    have ew : idx w (m : Int) = some (w.getD m 0) := idx_getD 0 rfl (by omega)
    have ep : idx (tab n (pre w)) (m : Int) = some (pre w m) := idx_tab rfl hm
    unfold selects_Places_L5
    rw [Tr.run_br, if_pos (by simp; omega), Tr.run_bnd_some ev, Tr.run_bnd_some ep, Tr.run_bnd_some ep, Tr.run_bnd_some ew, Tr.run_br, wrap64 (n := (m : Int) + 1) (by omega) (by omega), wrap64 (n := pre w m + w.getD m 0) (by omega) (by omega)]
    have same : (∀ p, p < n → has1 v w (pre w) f t p m = false) → tab n (fun p => has v w (pre w) f t p m) = tab n (fun p => has v w (pre w) f t p (m + 1)) :=
      fun h => tab_congr fun p hp => by rw [has_succ, h p hp, Bool.or_false]
    by_cases e1 : 0 ≤ v.getD m 0
    · rw [if_pos (by simpa using e1), Tr.run_br]
      by_cases e2 : v.getD m 0 < (n : Int)
      · rw [if_pos (by simpa using e2), Tr.run_br]
        by_cases e3 : (if f > pre w m then f else pre w m) < (if t < pre w m + w.getD m 0 then t else pre w m + w.getD m 0)
        · obtain ⟨q, hq⟩ : ∃ q : Nat, v.getD m 0 = (q : Int) := ⟨(v.getD m 0).toNat, by omega⟩
          rw [if_pos (by simpa using e3), Tr.run_bnd_some (idx_tab hq (by omega)), Tr.run_pure, hq, show Int.toNat (q : Int) = q from rfl, tab_set]
          have : tab n (fun i => if i = q then true else has v w (pre w) f t i m) = tab n (fun p => has v w (pre w) f t p (m + 1)) := by
            apply tab_congr
            intro p _
            rw [has_succ]
            have e4 : 0 < w.getD m 0 ∧ f < t ∧ pre w m < t ∧ f < pre w m + w.getD m 0 := by
              split at e3 <;> split at e3 <;> omega
            by_cases ep : p = q
            · subst ep
              have : has1 v w (pre w) f t p m = true := by
                unfold has1
                exact decide_eq_true ⟨hq, e4.1, e4.2.1, e4.2.2.1, e4.2.2.2⟩
              rw [if_pos rfl, this, Bool.or_true]
            · have : has1 v w (pre w) f t p m = false := by
                unfold has1
                exact decide_eq_false fun h => ep (by have := h.1; omega)
              rw [if_neg ep, this, Bool.or_false]
          rw [this]
          rfl
        · rw [if_neg (by simpa using e3), Tr.run_pure, same]
          · rfl
          · intro p _
            unfold has1
            refine decide_eq_false fun h => e3 ?_
            split <;> split <;> omega
      · rw [if_neg (by simpa using e2), Tr.run_pure, same]
        · rfl
        · intro p hp'
          unfold has1
          exact decide_eq_false fun h => e2 (by have := h.1; omega)
    · rw [if_neg (by simpa using e1), Tr.run_pure, same]
      · rfl
      · intro p hp'
        unfold has1
        exact decide_eq_false fun h => e1 (by have := h.1; omega)
  · dsimp only
    unfold selects_Places_L5
    rw [Tr.run_br, if_neg (by simp), Tr.run_pure]

theorem awake35 : law35_awake_F = some true := by
  unfold law35_awake_F law35_awake_T
  have hs := starts_F [1, 1, 1, 1] (by simp)
  have hm : (if (([1, 1, 1, 1] : List Int).length : Int) < (([0, 2, 1, 3] : List Int).length : Int) then (([1, 1, 1, 1] : List Int).length : Int) else (([0, 2, 1, 3] : List Int).length : Int)) = 4 := by simp
  have c4 : cut ([1, 1, 1, 1] : List Int) 0 4 = some [1, 1, 1, 1] := rfl
  have cv : cut ([0, 2, 1, 3] : List Int) 0 4 = some [0, 2, 1, 3] := rfl
  have b1 : selects_Bands_F [0, 2, 1, 3] [1, 1, 1, 1] 1 3 = some [(1, 3)] := by
    unfold selects_Bands_F selects_Bands_T
    rw [hm, Tr.run_bnd_some c4, Tr.run_bnd_some hs, Tr.run_bnd_some cv]
    rw [Tr.run_bnd_some (loopW_eq (n := 10) (r := [(1, 3)]) (by rfl))]; rfl
  have b2 : selects_Bands_F [0, 2, 1, 3] [1, 1, 1, 1] 0 2 = some [(0, 1), (2, 3)] := by
    unfold selects_Bands_F selects_Bands_T
    rw [hm, Tr.run_bnd_some c4, Tr.run_bnd_some hs, Tr.run_bnd_some cv]
    rw [Tr.run_bnd_some (loopW_eq (n := 10) (r := [(0, 1), (2, 3)]) (by rfl))]; rfl
  have small : Small [1, 1, 1, 1] := ⟨by simp, fun k => by
    match k with
    | 0 => decide
    | 1 => decide
    | 2 => decide
    | 3 => decide
    | k + 4 => simp [List.getD]⟩
  have p0 : places (fun p => has [0, 2, 1, 3] [1, 1, 1, 1] (pre [1, 1, 1, 1]) 1 2 p 4) 4 = [2] := by rfl
  have p1 := places_F [0, 2, 1, 3] [1, 1, 1, 1] small 1 2 4 rfl
  rw [p0] at p1
  rw [Tr.run_bnd_some b1, Tr.run_bnd_some b2, Tr.run_br, if_pos (by simp), Tr.run_bnd_some (show idx [((1 : Int), (3 : Int))] 0 = some (1, 3) from rfl), Tr.run_br, if_pos (by simp), Tr.run_br, if_pos (by simp),
    Tr.run_bnd_some (show idx [((0 : Int), (1 : Int)), (2, 3)] 1 = some (2, 3) from rfl), Tr.run_br, if_pos (by simp), Tr.run_bnd_some p1, Tr.run_bnd_some (same_F [2] (by simp))]
  rfl
end Go.Proofs.Ytiijkbdffbjehaa
