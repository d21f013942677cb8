/-
  The laws of runs return true.
-/
import Derived.Test.YtfjhbhnelkpgdaaSh
import Derived.Test.YtfjhbhnelkpgdaaEvMath
namespace Go.Proofs.Ytfjhbhnelkpgdaa

/-! ### the runs, place by place -/
def runStep (lv : Nat → Int) (i : Nat) (s : List (List Int) × List Int) : List (List Int) × List Int :=
  if lv i = -1 then s else match s.2 with
    | [] => (s.1, [(i : Int)])
    | p :: r => if lv p.toNat = lv i then (s.1, (p :: r) ++ [(i : Int)]) else (s.1 ++ [p :: r], [(i : Int)])
def runsTo (lv : Nat → Int) : Nat → List (List Int) × List Int
  | 0 => ([], [])
  | i + 1 => runStep lv i (runsTo lv i)
def runsOf (lv : Nat → Int) (n : Nat) : List (List Int) := match (runsTo lv n).2 with | [] => (runsTo lv n).1 | p :: r => (runsTo lv n).1 ++ [p :: r]

theorem runStep_skip {lv : Nat → Int} {i : Nat} {s : List (List Int) × List Int} (h : lv i = -1) : runStep lv i s = s := by unfold runStep; rw [if_pos h]
theorem runStep_first {lv : Nat → Int} {i : Nat} {a : List (List Int)} (h : lv i ≠ -1) : runStep lv i (a, []) = (a, [(i : Int)]) := by unfold runStep; rw [if_neg h]
theorem runStep_more {lv : Nat → Int} {i : Nat} {a : List (List Int)} {p : Int} {r : List Int} (h : lv i ≠ -1) (e : lv p.toNat = lv i) : runStep lv i (a, p :: r) = (a, (p :: r) ++ [(i : Int)]) := by
  unfold runStep; rw [if_neg h]; simp [e]
theorem runStep_new {lv : Nat → Int} {i : Nat} {a : List (List Int)} {p : Int} {r : List Int} (h : lv i ≠ -1) (e : lv p.toNat ≠ lv i) : runStep lv i (a, p :: r) = (a ++ [p :: r], [(i : Int)]) := by
  unfold runStep; rw [if_neg h]; simp [e]

/-- what may be said of the runs up to a place -/
def Place (lv : Nat → Int) (i : Nat) (p : Int) : Prop := ∃ q, q < i ∧ p = (q : Int) ∧ lv q ≠ -1
theorem Place.mono {lv : Nat → Int} {i j : Nat} {p : Int} (h : Place lv i p) (hj : i ≤ j) : Place lv j p := by
  obtain ⟨q, h1, h2, h3⟩ := h; exact ⟨q, by omega, h2, h3⟩
structure RunsAt (lv : Nat → Int) (i : Nat) (s : List (List Int) × List Int) : Prop where
  few : s.1.length ≤ i ∧ s.2.length ≤ i
  old : ∀ r ∈ s.1, r ≠ [] ∧ ∀ p ∈ r, Place lv i p
  new : ∀ p ∈ s.2, Place lv i p
  first : s.2 = [] → s.1 = [] ∧ ∀ q, q < i → lv q = -1

theorem runsAt (lv : Nat → Int) : ∀ i, RunsAt lv i (runsTo lv i)
  | 0 => ⟨by simp [runsTo], fun r hr => (by cases hr), fun p hp => (by cases hp), fun _ => ⟨rfl, fun q hq => (by omega)⟩⟩
  | i + 1 => by
    have ih := runsAt lv i
    unfold runsTo
    generalize runsTo lv i = s at ih
    obtain ⟨a, run⟩ := s
    have o : ∀ r ∈ a, r ≠ [] ∧ ∀ p ∈ r, Place lv (i + 1) p := fun r hr => ⟨(ih.old r hr).1, fun p hp => ((ih.old r hr).2 p hp).mono (by omega)⟩
    have n : ∀ p ∈ run, Place lv (i + 1) p := fun p hp => (ih.new p hp).mono (by omega)
    have f := ih.few
    dsimp only at f
    by_cases h : lv i = -1
    · rw [runStep_skip h]
      refine ⟨by dsimp only; omega, o, n, fun e => ⟨(ih.first e).1, fun q hq => ?_⟩⟩
      by_cases e2 : q = i
      · subst e2; exact h
      · exact (ih.first e).2 q (by omega)
    · have hi : Place lv (i + 1) (i : Int) := ⟨i, by omega, rfl, h⟩
      cases run with
      | nil =>
        rw [runStep_first h]
        refine ⟨by simp; omega, o, fun p hp => ?_, fun e => by cases e⟩
        simp only [List.mem_singleton] at hp
        subst hp; exact hi
      | cons p r =>
        by_cases e : lv p.toNat = lv i
        · rw [runStep_more h e]
          refine ⟨by simp at f ⊢; omega, o, fun x hx => ?_, fun e => by simp at e⟩
          rcases List.mem_append.1 hx with hx | hx
          · exact n x hx
          · simp only [List.mem_singleton] at hx
            subst hx; exact hi
        · rw [runStep_new h e]
          refine ⟨by simp at f ⊢; omega, fun x hx => ?_, fun x hx => ?_, fun e => by cases e⟩
          · rcases List.mem_append.1 hx with hx | hx
            · exact o x hx
            · simp only [List.mem_singleton] at hx
              subst hx; exact ⟨by simp, n⟩
          · simp only [List.mem_singleton] at hx
            subst hx; exact hi

theorem runs_F (xs : List Int) (hn : xs.length ≤ 4194304) : runs_Of_F xs = some (runsOf (fun i => xs.getD i 0) xs.length) := by
  unfold runs_Of_F runs_Of_T
  have hl := loopW_count (f := fun s : List Int × List (List Int) × List Int × List Int × Int × Int => (runs_Of_L4 s.1 s.2.1 s.2.2.1 s.2.2.2.1 s.2.2.2.2.1 s.2.2.2.2.2).run) xs.length
    (fun k => (xs, (runsTo (fun i => xs.getD i 0) k).1, (runsTo (fun i => xs.getD i 0) k).2, xs, (xs.length : Int), (k : Int))) (r := ((runsTo (fun i => xs.getD i 0) xs.length).1, (runsTo (fun i => xs.getD i 0) xs.length).2)) ?_ ?_
  · rw [show ((0 : Nat) : Int) = 0 from rfl, show runsTo (fun i => xs.getD i 0) 0 = ([], []) from rfl] at hl
    rw [Tr.run_bnd_some hl, Tr.run_br]
    dsimp only
    unfold runsOf
    have f := (runsAt (fun i => xs.getD i 0) xs.length).few
    cases hr : (runsTo (fun i => xs.getD i 0) xs.length).2 with
    | nil =>
      rw [if_neg (by simp), Tr.run_pure]
    | cons p r =>
      rw [if_pos (by simp), Tr.run_bnd_some (app_eq (by simp only [List.length_cons, List.length_nil]; omega)), Tr.run_pure]
  · intro k hk
    dsimp only
    have ih := runsAt (fun i => xs.getD i 0) k
    rw [show runsTo (fun i => xs.getD i 0) (k + 1) = runStep (fun i => xs.getD i 0) k (runsTo (fun i => xs.getD i 0) k) from rfl]
    generalize runsTo (fun i => xs.getD i 0) k = s at ih
    obtain ⟨a, run⟩ := s
    have f := ih.few
    dsimp only at f ⊢
    unfold runs_Of_L4
    rw [Tr.run_br, if_pos (by simp; omega), Tr.run_bnd_some (idx_getD 0 rfl hk), Tr.run_br, wrap64 (by omega) (by omega)]
    by_cases h : xs.getD k 0 = -1
    · rw [if_pos (by simpa using h), Tr.run_pure, runStep_skip h]
      rfl
    · rw [if_neg (by simpa using h), Tr.run_br]
      cases run with
      | nil =>
        rw [if_neg (by simp), Tr.run_bnd_some (app_eq (by simp)), Tr.run_pure, runStep_first h]
        rfl
      | cons p r =>
        obtain ⟨q, hq, rfl, hq1⟩ := ih.new p (by simp)
        have i0 : idx ((q : Int) :: r) 0 = some (q : Int) := idx_get (k := 0) rfl (by simp)
        rw [if_pos (by simp), Tr.run_bnd_some i0, Tr.run_bnd_some (idx_getD 0 rfl (show q < xs.length by omega)), Tr.run_br]
        by_cases e : xs.getD q 0 = xs.getD k 0
        · rw [if_neg (by rw [e]; simp), Tr.run_bnd_some (app_eq (by simp at f ⊢; omega)), Tr.run_pure, runStep_more h e]
          rfl
        · rw [if_pos (by simpa using e), Tr.run_bnd_some (app_eq (by simp; omega)), Tr.run_bnd_some (app_eq (by simp)), Tr.run_pure, runStep_new h e]
          rfl
  · dsimp only
    unfold runs_Of_L4
    rw [Tr.run_br, if_neg (by simp), Tr.run_pure]

/-- levels that may be -/
def lev (ns : List Int) (i : Nat) : Int := if (ns.getD i 0) % 8 = 7 then -1 else ((ns.getD i 0) / 8) % 6
theorem levels_F (ns : List Int) (hn : ns.length ≤ 2097152) (h8 : ∀ n ∈ ns, 0 ≤ n ∧ n ≤ 255) : law12_Levels_F ns = some (tab ns.length (lev ns)) := by
  unfold law12_Levels_F law12_Levels_T
  have hl := loopW_count (f := fun s : List Int × List Int × Int => (law12_Levels_L3 s.1 s.2.1 s.2.2).run) ns.length
    (fun k => (ns, tab k (lev ns), (k : Int))) (r := tab ns.length (lev ns)) ?_ ?_
  · rw [show ((0 : Nat) : Int) = 0 from rfl, tab_zero] at hl
    rw [Tr.run_bnd_some hl]
    rfl
  · intro k hk
    dsimp only
    have hm := h8 (ns.getD k 0) (by simp [List.getD, hk])
    unfold law12_Levels_L3
    rw [Tr.run_br, if_pos (by simp; omega), Tr.run_bnd_some (idx_getD 0 rfl hk), Tr.run_br, Int.tmod_eq_emod_of_nonneg hm.1, wrap64 (n := (k : Int) + 1) (by omega) (by omega)]
    by_cases e : ns.getD k 0 % 8 = 7
    · rw [if_pos (by simpa using e), Tr.run_bnd_some (app_eq (by simp [tab_len]; omega)), Tr.run_pure, ← tab_succ k (lev ns), lev, if_pos e]
      rfl
    · have hd : (ns.getD k 0).tdiv 8 = ns.getD k 0 / 8 := Int.tdiv_eq_ediv_of_nonneg hm.1
      rw [if_neg (by simpa using e), Tr.run_bnd_some (idx_getD 0 rfl hk), Tr.run_bnd_some (app_eq (by simp [tab_len]; omega)), Tr.run_pure, ← tab_succ k (lev ns), lev, if_neg e, hd, wrapU8 (by omega) (by omega), wrap64 (by omega) (by omega),
        Int.tmod_eq_emod_of_nonneg (by omega)]
      rfl
  · dsimp only
    unfold law12_Levels_L3
    rw [Tr.run_br, if_neg (by simp), Tr.run_pure]
theorem lev_range (ns : List Int) (i : Nat) (h8 : ∀ n ∈ ns, 0 ≤ n ∧ n ≤ 255) : -1 ≤ lev ns i ∧ lev ns i ≤ 5 := by
  unfold lev
  split <;> omega

theorem runsTo_congr {lv mv : Nat → Int} : ∀ {n : Nat}, (∀ i, i < n → lv i = mv i) → runsTo lv n = runsTo mv n
  | 0, _ => rfl
  | n + 1, h => by
    have ih := runsTo_congr (n := n) (fun i hi => h i (by omega))
    have ha := runsAt mv n
    unfold runsTo
    rw [ih]
    unfold runStep
    rw [h n (by omega)]
    split
    · rfl
    · split
      · rfl
      · rename_i p r hr
        obtain ⟨q, hq, rfl, _⟩ := ha.new p (by rw [hr]; simp)
        rw [show lv (Int.toNat (q : Int)) = mv (Int.toNat (q : Int)) from h q (by omega)]
theorem runs_tab {lv : Nat → Int} {n : Nat} (hn : n ≤ 4194304) : runs_Of_F (tab n lv) = some (runsOf lv n) := by
  rw [runs_F _ (by rw [tab_len]; exact hn), tab_len]
  congr 1
  have : runsTo (fun i => (tab n lv).getD i 0) n = runsTo lv n := runsTo_congr fun i hi => by simp [List.getD, tab_get _ hi]
  unfold runsOf
  rw [this]

theorem awake12 : law12_awake_F = some true := by
  unfold law12_awake_F law12_awake_T
  have h : runs_Of_F [0, 0, -1, 0, 1] = some [[0, 1, 3], [4]] := by
    rw [runs_F _ (by simp)]
    rfl
  rw [Tr.run_bnd_some h]
  rfl

/-! ### one run more than changes -/
theorem runsCount_true (ns : List Int) (hn : ns.length ≤ 2097152) (h8 : ∀ n ∈ ns, 0 ≤ n ∧ n ≤ 255) : law12_RunsCount_F ns = some true := by
  unfold law12_RunsCount_F law12_RunsCount_T
  rw [Tr.run_bnd_some awake12, Tr.run_br, if_neg (by simp), Tr.run_bnd_some (levels_F ns hn h8), tab_len]
  have hl := loopW_count (f := fun s : List Int × Int × Int × List Int × Int × Int => (law12_RunsCount_L5 s.1 s.2.1 s.2.2.1 s.2.2.2.1 s.2.2.2.2.1 s.2.2.2.2.2).run) ns.length
    (fun k => (ns, (match (runsTo (lev ns) k).2 with | [] => -5 | p :: _ => lev ns p.toNat), (((runsTo (lev ns) k).1.length + (match (runsTo (lev ns) k).2 with | [] => 0 | _ :: _ => 1) : Nat) : Int), tab ns.length (lev ns), (ns.length : Int), (k : Int)))
    (r := (ns, (((runsTo (lev ns) ns.length).1.length + (match (runsTo (lev ns) ns.length).2 with | [] => 0 | _ :: _ => 1) : Nat) : Int))) ?_ ?_
  · have e0 : runsTo (lev ns) 0 = ([], []) := rfl
    simp only [e0, List.length_nil, Nat.add_zero, show ((0 : Nat) : Int) = 0 from rfl] at hl
    rw [Tr.run_bnd_some hl, Tr.run_bnd_some (levels_F ns hn h8), Tr.run_bnd_some (runs_tab (by omega)), Tr.run_pure]
    unfold runsOf
    cases (runsTo (lev ns) ns.length).2 <;> simp
  · intro k hk
    dsimp only
    have ih := runsAt (lev ns) k
    rw [show runsTo (lev ns) (k + 1) = runStep (lev ns) k (runsTo (lev ns) k) from rfl]
    generalize runsTo (lev ns) k = s at ih
    obtain ⟨a, run⟩ := s
    have f := ih.few
    dsimp only at f ⊢
    have hr := lev_range ns k h8
    unfold law12_RunsCount_L5
    rw [Tr.run_br, if_pos (by simp; omega), Tr.run_bnd_some (idx_tab rfl hk), Tr.run_br, wrap64 (n := (k : Int) + 1) (by omega) (by omega)]
    by_cases h : lev ns k = -1
    · rw [if_pos (by simpa using h), Tr.run_pure, runStep_skip h]
      rfl
    · rw [if_neg (by simpa using h), Tr.run_br]
      cases run with
      | nil =>
        rw [if_pos (by simp only [bne_iff_ne, ne_eq]; omega), Tr.run_pure, runStep_first h]
        rw [wrap64 (by simp; omega) (by simp; omega)]
        simp
      | cons p r =>
        dsimp only
        by_cases e : lev ns p.toNat = lev ns k
        · rw [if_neg (by simp [e]), Tr.run_pure, runStep_more h e]
          simp [e]
        · rw [if_pos (by simp only [bne_iff_ne, ne_eq]; exact fun x => e x.symm), Tr.run_pure, runStep_new h e]
          rw [wrap64 (by simp; omega) (by simp; omega)]
          simp
  · dsimp only
    unfold law12_RunsCount_L5
    rw [Tr.run_br, if_neg (by simp), Tr.run_pure]

theorem runsCount_all (x : Tys.I [.sl (.int .u8)]) (h : WfAll [.sl (.int .u8)] x) (hb : bulkAll [.sl (.int .u8)] x ≤ 1048576) : law12_RunsCount_F x.1 = some true := by
  simp only [bulkAll, bulk] at hb
  exact runsCount_true _ (by omega) (fun n hn => wf_u8 (h.1.2 n hn))

end Go.Proofs.Ytfjhbhnelkpgdaa
