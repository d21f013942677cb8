/-
  Runs and matches: what the sequences of a paragraph are made of.
-/
import Derived.Test.YtjiehphakabflaaLawExplC
namespace Go.Proofs.Ytjiehphakabflaa
set_option linter.all false

/-! ### the runs, place by place -/
def runStep (lv : Nat → Int) (i : Nat) (s : List (List Int) × List Int) : List (List Int) × List Int :=
  if lv i = -1 then s else match s.2 with
    | [] => (s.1, [(i : Int)])
    | p :: r => if lv p.toNat = lv i then (s.1, (p :: r) ++ [(i : Int)]) else (s.1 ++ [p :: r], [(i : Int)])
def runsTo (lv : Nat → Int) : Nat → List (List Int) × List Int
  | 0 => ([], [])
  | i + 1 => runStep lv i (runsTo lv i)
def runsOf (lv : Nat → Int) (n : Nat) : List (List Int) := match (runsTo lv n).2 with | [] => (runsTo lv n).1 | p :: r => (runsTo lv n).1 ++ [p :: r]

theorem runStep_skip {lv : Nat → Int} {i : Nat} {s : List (List Int) × List Int} (h : lv i = -1) : runStep lv i s = s := by unfold runStep; rw [if_pos h]
theorem runStep_first {lv : Nat → Int} {i : Nat} {a : List (List Int)} (h : lv i ≠ -1) : runStep lv i (a, []) = (a, [(i : Int)]) := by unfold runStep; rw [if_neg h]
theorem runStep_more {lv : Nat → Int} {i : Nat} {a : List (List Int)} {p : Int} {r : List Int} (h : lv i ≠ -1) (e : lv p.toNat = lv i) : runStep lv i (a, p :: r) = (a, (p :: r) ++ [(i : Int)]) := by
  unfold runStep; rw [if_neg h]; simp [e]
theorem runStep_new {lv : Nat → Int} {i : Nat} {a : List (List Int)} {p : Int} {r : List Int} (h : lv i ≠ -1) (e : lv p.toNat ≠ lv i) : runStep lv i (a, p :: r) = (a ++ [p :: r], [(i : Int)]) := by
  unfold runStep; rw [if_neg h]; simp [e]

/-- what may be said of the runs up to a place -/
def Place (lv : Nat → Int) (i : Nat) (p : Int) : Prop := ∃ q, q < i ∧ p = (q : Int) ∧ lv q ≠ -1
theorem Place.mono {lv : Nat → Int} {i j : Nat} {p : Int} (h : Place lv i p) (hj : i ≤ j) : Place lv j p := by
  obtain ⟨q, h1, h2, h3⟩ := h; exact ⟨q, by omega, h2, h3⟩
structure RunsAt (lv : Nat → Int) (i : Nat) (s : List (List Int) × List Int) : Prop where
  few : s.1.length ≤ i ∧ s.2.length ≤ i
  old : ∀ r ∈ s.1, r ≠ [] ∧ ∀ p ∈ r, Place lv i p
  new : ∀ p ∈ s.2, Place lv i p
  first : s.2 = [] → s.1 = [] ∧ ∀ q, q < i → lv q = -1

theorem runsAt (lv : Nat → Int) : ∀ i, RunsAt lv i (runsTo lv i)
  | 0 => ⟨by simp [runsTo], fun r hr => (by cases hr), fun p hp => (by cases hp), fun _ => ⟨rfl, fun q hq => (by omega)⟩⟩
  | i + 1 => by
    have ih := runsAt lv i
    unfold runsTo
    generalize runsTo lv i = s at ih
    obtain ⟨a, run⟩ := s
    have o : ∀ r ∈ a, r ≠ [] ∧ ∀ p ∈ r, Place lv (i + 1) p := fun r hr => ⟨(ih.old r hr).1, fun p hp => ((ih.old r hr).2 p hp).mono (by omega)⟩
    have n : ∀ p ∈ run, Place lv (i + 1) p := fun p hp => (ih.new p hp).mono (by omega)
    have f := ih.few
    dsimp only at f
    by_cases h : lv i = -1
    · rw [runStep_skip h]
      refine ⟨by dsimp only; omega, o, n, fun e => ⟨(ih.first e).1, fun q hq => ?_⟩⟩
      by_cases e2 : q = i
      · subst e2; exact h
      · exact (ih.first e).2 q (by omega)
    · have hi : Place lv (i + 1) (i : Int) := ⟨i, by omega, rfl, h⟩
      cases run with
      | nil =>
        rw [runStep_first h]
        refine ⟨by simp; omega, o, fun p hp => ?_, fun e => by cases e⟩
        simp only [List.mem_singleton] at hp
        subst hp; exact hi
      | cons p r =>
        by_cases e : lv p.toNat = lv i
        · rw [runStep_more h e]
          refine ⟨by simp at f ⊢; omega, o, fun x hx => ?_, fun e => by simp at e⟩
          rcases List.mem_append.1 hx with hx | hx
          · exact n x hx
          · simp only [List.mem_singleton] at hx
            subst hx; exact hi
        · rw [runStep_new h e]
          refine ⟨by simp at f ⊢; omega, fun x hx => ?_, fun x hx => ?_, fun e => by cases e⟩
          · rcases List.mem_append.1 hx with hx | hx
            · exact o x hx
            · simp only [List.mem_singleton] at hx
              subst hx; exact ⟨by simp, n⟩
          · simp only [List.mem_singleton] at hx
            subst hx; exact hi

theorem runs_F (xs : List Int) (hn : xs.length ≤ 4194304) : runs_Of_F xs = some (runsOf (fun i => xs.getD i 0) xs.length) := by
  unfold runs_Of_F runs_Of_T
  have hl := loopW_count (f := fun s : List Int × List (List Int) × List Int × List Int × Int × Int => (runs_Of_L4 s.1 s.2.1 s.2.2.1 s.2.2.2.1 s.2.2.2.2.1 s.2.2.2.2.2).run) xs.length
    (fun k => (xs, (runsTo (fun i => xs.getD i 0) k).1, (runsTo (fun i => xs.getD i 0) k).2, xs, (xs.length : Int), (k : Int))) (r := ((runsTo (fun i => xs.getD i 0) xs.length).1, (runsTo (fun i => xs.getD i 0) xs.length).2)) ?_ ?_
  · rw [show ((0 : Nat) : Int) = 0 from rfl, show runsTo (fun i => xs.getD i 0) 0 = ([], []) from rfl] at hl
    rw [Tr.run_bnd_some hl, Tr.run_br]
    dsimp only
    unfold runsOf
    have f := (runsAt (fun i => xs.getD i 0) xs.length).few
    cases hr : (runsTo (fun i => xs.getD i 0) xs.length).2 with
    | nil =>
      rw [if_neg (by simp), Tr.run_pure]
    | cons p r =>
      rw [if_pos (by simp), Tr.run_bnd_some (app_eq (by simp only [List.length_cons, List.length_nil]; omega)), Tr.run_pure]
  · intro k hk
    dsimp only
    have ih := runsAt (fun i => xs.getD i 0) k
    rw [show runsTo (fun i => xs.getD i 0) (k + 1) = runStep (fun i => xs.getD i 0) k (runsTo (fun i => xs.getD i 0) k) from rfl]
    generalize runsTo (fun i => xs.getD i 0) k = s at ih
    obtain ⟨a, run⟩ := s
    have f := ih.few
    dsimp only at f ⊢
    unfold runs_Of_L4
    rw [Tr.run_br, if_pos (by simp; omega), Tr.run_bnd_some (idx_getD 0 rfl hk), Tr.run_br, wrap64 (by omega) (by omega)]
    by_cases h : xs.getD k 0 = -1
    · rw [if_pos (by simpa using h), Tr.run_pure, runStep_skip h]
      rfl
    · rw [if_neg (by simpa using h), Tr.run_br]
      cases run with
      | nil =>
        rw [if_neg (by simp), Tr.run_bnd_some (app_eq (by simp)), Tr.run_pure, runStep_first h]
        rfl
      | cons p r =>
        obtain ⟨q, hq, rfl, hq1⟩ := ih.new p (by simp)
        have i0 : idx ((q : Int) :: r) 0 = some (q : Int) := idx_get (k := 0) rfl (by simp)
        rw [if_pos (by simp), Tr.run_bnd_some i0, Tr.run_bnd_some (idx_getD 0 rfl (show q < xs.length by omega)), Tr.run_br]
        by_cases e : xs.getD q 0 = xs.getD k 0
        · rw [if_neg (by rw [e]; simp), Tr.run_bnd_some (app_eq (by simp at f ⊢; omega)), Tr.run_pure, runStep_more h e]
          rfl
        · rw [if_pos (by simpa using e), Tr.run_bnd_some (app_eq (by simp; omega)), Tr.run_bnd_some (app_eq (by simp)), Tr.run_pure, runStep_new h e]
          rfl
  · dsimp only
    unfold runs_Of_L4
    rw [Tr.run_br, if_neg (by simp), Tr.run_pure]

/-- levels that may be -/
def lev (ns : List Int) (i : Nat) : Int := if (ns.getD i 0) % 8 = 7 then -1 else ((ns.getD i 0) / 8) % 6
theorem levels_F (ns : List Int) (hn : ns.length ≤ 2097152) (h8 : ∀ n ∈ ns, 0 ≤ n ∧ n ≤ 255) : law12_Levels_F ns = some (tab ns.length (lev ns)) := by
  unfold law12_Levels_F law12_Levels_T
  have hl := loopW_count (f := fun s : List Int × List Int × Int => (law12_Levels_L3 s.1 s.2.1 s.2.2).run) ns.length
    (fun k => (ns, tab k (lev ns), (k : Int))) (r := tab ns.length (lev ns)) ?_ ?_
  · rw [show ((0 : Nat) : Int) = 0 from rfl, tab_zero] at hl
    rw [Tr.run_bnd_some hl]
    rfl
  · intro k hk
    dsimp only
    have hm := h8 (ns.getD k 0) (by simp [List.getD, hk])
    unfold law12_Levels_L3
    rw [Tr.run_br, if_pos (by simp; omega), Tr.run_bnd_some (idx_getD 0 rfl hk), Tr.run_br, Int.tmod_eq_emod_of_nonneg hm.1, wrap64 (n := (k : Int) + 1) (by omega) (by omega)]
    by_cases e : ns.getD k 0 % 8 = 7
    · rw [if_pos (by simpa using e), Tr.run_bnd_some (app_eq (by simp [tab_len]; omega)), Tr.run_pure, ← tab_succ k (lev ns), lev, if_pos e]
      rfl
    · have hd : (ns.getD k 0).tdiv 8 = ns.getD k 0 / 8 := Int.tdiv_eq_ediv_of_nonneg hm.1
      rw [if_neg (by simpa using e), Tr.run_bnd_some (idx_getD 0 rfl hk), Tr.run_bnd_some (app_eq (by simp [tab_len]; omega)), Tr.run_pure, ← tab_succ k (lev ns), lev, if_neg e, hd, wrapU8 (by omega) (by omega), wrap64 (by omega) (by omega),
        Int.tmod_eq_emod_of_nonneg (by omega)]
      rfl
  · dsimp only
    unfold law12_Levels_L3
    rw [Tr.run_br, if_neg (by simp), Tr.run_pure]
theorem lev_range (ns : List Int) (i : Nat) (h8 : ∀ n ∈ ns, 0 ≤ n ∧ n ≤ 255) : -1 ≤ lev ns i ∧ lev ns i ≤ 5 := by
  unfold lev
  split <;> omega

theorem runsTo_congr {lv mv : Nat → Int} : ∀ {n : Nat}, (∀ i, i < n → lv i = mv i) → runsTo lv n = runsTo mv n
  | 0, _ => rfl
  | n + 1, h => by
    have ih := runsTo_congr (n := n) (fun i hi => h i (by omega))
    have ha := runsAt mv n
    unfold runsTo
    rw [ih]
    unfold runStep
    rw [h n (by omega)]
    split
    · rfl
    · split
      · rfl
      · rename_i p r hr
        obtain ⟨q, hq, rfl, _⟩ := ha.new p (by rw [hr]; simp)
        rw [show lv (Int.toNat (q : Int)) = mv (Int.toNat (q : Int)) from h q (by omega)]
theorem runs_tab {lv : Nat → Int} {n : Nat} (hn : n ≤ 4194304) : runs_Of_F (tab n lv) = some (runsOf lv n) := by
  rw [runs_F _ (by rw [tab_len]; exact hn), tab_len]
  congr 1
  have : runsTo (fun i => (tab n lv).getD i 0) n = runsTo lv n := runsTo_congr fun i hi => by simp [List.getD, tab_get _ hi]
  unfold runsOf
  rw [this]

theorem runsOf_ne (lv : Nat → Int) (n : Nat) : ∀ r ∈ runsOf lv n, r ≠ [] := by
  intro r hr
  have ha := runsAt lv n
  unfold runsOf at hr
  cases h2 : (runsTo lv n).2 with
  | nil =>
    rw [h2] at hr
    exact (ha.old r hr).1
  | cons p q =>
    rw [h2] at hr
    rcases List.mem_append.1 hr with h | h
    · exact (ha.old r h).1
    · simp only [List.mem_singleton] at h
      subst h; simp

/-- the places that are not taken out, from a place up to another one, in order -/
def Chain (lv : Nat → Int) : Nat → List Int → Nat → Prop
  | a, [], b => a ≤ b ∧ ∀ x, a ≤ x → x < b → lv x = -1
  | a, p :: r, b => ∃ q : Nat, p = (q : Int) ∧ a ≤ q ∧ (∀ x, a ≤ x → x < q → lv x = -1) ∧ lv q ≠ -1 ∧ Chain lv (q + 1) r b
theorem Chain.le {lv : Nat → Int} : ∀ {l : List Int} {a b : Nat}, Chain lv a l b → a ≤ b
  | [], a, b, h => h.1
  | p :: r, a, b, h => by
    obtain ⟨q, _, h1, _, _, h2⟩ := h
    have := h2.le
    omega
theorem Chain.snoc {lv : Nat → Int} : ∀ {l : List Int} {a b : Nat}, Chain lv a l b → lv b ≠ -1 → Chain lv a (l ++ [(b : Int)]) (b + 1)
  | [], a, b, h, hb => ⟨b, rfl, h.1, h.2, hb, by omega, fun x h1 h2 => by omega⟩
  | p :: r, a, b, h, hb => by
    obtain ⟨q, h0, h1, h2, h3, h4⟩ := h
    exact ⟨q, h0, h1, h2, h3, h4.snoc hb⟩
theorem Chain.skip {lv : Nat → Int} : ∀ {l : List Int} {a b : Nat}, Chain lv a l b → lv b = -1 → Chain lv a l (b + 1)
  | [], a, b, h, hb => ⟨by have := h.1; omega, fun x h1 h2 => by
      by_cases e : x = b
      · subst e; exact hb
      · exact h.2 x h1 (by omega)⟩
  | p :: r, a, b, h, hb => by
    obtain ⟨q, h0, h1, h2, h3, h4⟩ := h
    exact ⟨q, h0, h1, h2, h3, h4.skip hb⟩

/-- each of one level, the next one of another -/
def AltRuns (lv : Nat → Int) : Int → List (List Int) → Prop
  | _, [] => True
  | last, r :: rs => ∃ p t, r = p :: t ∧ lv p.toNat ≠ last ∧ (∀ x ∈ r, lv x.toNat = lv p.toNat) ∧ AltRuns lv (lv p.toNat) rs
theorem alt_more {lv : Nat → Int} {p i : Int} {r : List Int} (e : lv p.toNat = lv i.toNat) : ∀ {a : List (List Int)} {last : Int}, AltRuns lv last (a ++ [p :: r]) → AltRuns lv last (a ++ [(p :: r) ++ [i]])
  | [], last, h => by
    obtain ⟨p', t, h0, h1, h2, _⟩ := h
    cases h0
    refine ⟨p, r ++ [i], rfl, h1, fun x hx => ?_, trivial⟩
    rcases List.mem_append.1 hx with hx | hx
    · exact h2 x hx
    · simp only [List.mem_singleton] at hx
      subst hx; exact e.symm
  | b :: a, last, h => by
    obtain ⟨p', t, h0, h1, h2, h3⟩ := h
    exact ⟨p', t, h0, h1, h2, alt_more e h3⟩
theorem alt_new {lv : Nat → Int} {p i : Int} {r : List Int} (e : lv p.toNat ≠ lv i.toNat) : ∀ {a : List (List Int)} {last : Int}, AltRuns lv last (a ++ [p :: r]) → AltRuns lv last ((a ++ [p :: r]) ++ [[i]])
  | [], last, h => by
    obtain ⟨p', t, h0, h1, h2, _⟩ := h
    cases h0
    refine ⟨p, r, rfl, h1, h2, i, [], rfl, fun x => e x.symm, fun x hx => ?_, trivial⟩
    simp only [List.mem_singleton] at hx
    subst hx; rfl
  | b :: a, last, h => by
    obtain ⟨p', t, h0, h1, h2, h3⟩ := h
    exact ⟨p', t, h0, h1, h2, alt_new e h3⟩

theorem runs_good (lv : Nat → Int) (hr : ∀ i, lv i ≠ -5) : ∀ n, Chain lv 0 ((runsTo lv n).1.flatten ++ (runsTo lv n).2) n ∧ (∀ p r, (runsTo lv n).2 = p :: r → AltRuns lv (-5) ((runsTo lv n).1 ++ [p :: r]))
  | 0 => ⟨⟨by omega, fun x _ h => by omega⟩, fun p r h => by cases h⟩
  | n + 1 => by
    have ih := runs_good lv hr n
    have ha := runsAt lv n
    unfold runsTo
    generalize runsTo lv n = s at ih ha
    obtain ⟨a, run⟩ := s
    obtain ⟨h1, h2⟩ := ih
    dsimp only at h1 h2
    by_cases h : lv n = -1
    · rw [runStep_skip h]
      exact ⟨h1.skip h, h2⟩
    · have hc := h1.snoc h
      cases run with
      | nil =>
        rw [runStep_first h]
        rw [List.append_nil] at hc
        refine ⟨hc, fun p r e => ?_⟩
        cases e
        have e0 : a = [] := (ha.first rfl).1
        subst e0
        refine ⟨(n : Int), [], rfl, hr n, fun x hx => ?_, trivial⟩
        simp only [List.mem_singleton] at hx
        subst hx; rfl
      | cons p r =>
        by_cases e : lv p.toNat = lv n
        · rw [runStep_more h e]
          refine ⟨by rw [← List.append_assoc]; exact hc, fun p' r' e' => ?_⟩
          rw [← e']
          exact alt_more (i := (n : Int)) e (h2 p r rfl)
        · rw [runStep_new h e]
          refine ⟨?_, fun p' r' e' => ?_⟩
          · simpa using hc
          · cases e'
            exact alt_new (i := (n : Int)) e (h2 p r rfl)
theorem runsOf_good (lv : Nat → Int) (hr : ∀ i, lv i ≠ -5) (n : Nat) : Chain lv 0 (runsOf lv n).flatten n ∧ AltRuns lv (-5) (runsOf lv n) := by
  have h := runs_good lv hr n
  have ha := runsAt lv n
  unfold runsOf
  generalize runsTo lv n = s at h ha
  obtain ⟨a, run⟩ := s
  cases run with
  | nil =>
    have e0 : a = [] := (ha.first rfl).1
    subst e0
    exact ⟨by simpa using h.1, trivial⟩
  | cons p r => exact ⟨by simpa using h.1, h.2 p r rfl⟩

/-- the beginnings that are open behind so many classes, the last one first -/
def stk (cs : List Int) : Nat → List Nat
  | 0 => []
  | k + 1 => if iso (cs.getD k 0) = true then k :: stk cs k else if cs.getD k 0 = 22 then (stk cs k).tail else stk cs k
/-- the matches behind so many classes -/
def mt (cs : List Int) : Nat → Nat → Int
  | 0, _ => -1
  | k + 1, i => if iso (cs.getD k 0) = true then mt cs k i else if cs.getD k 0 = 22 then
      (match stk cs k with | t :: _ => if i = t then (k : Int) else if i = k then (t : Int) else mt cs k i | [] => mt cs k i) else mt cs k i

theorem stk_succ (cs : List Int) (k : Nat) : stk cs (k + 1) = if iso (cs.getD k 0) = true then k :: stk cs k else if cs.getD k 0 = 22 then (stk cs k).tail else stk cs k := rfl
theorem mt_succ (cs : List Int) (k i : Nat) : mt cs (k + 1) i = if iso (cs.getD k 0) = true then mt cs k i else if cs.getD k 0 = 22 then
      (match stk cs k with | t :: _ => if i = t then (k : Int) else if i = k then (t : Int) else mt cs k i | [] => mt cs k i) else mt cs k i := rfl
theorem stk_lt (cs : List Int) : ∀ k, ∀ t ∈ stk cs k, t < k
  | 0, t, h => by cases h
  | k + 1, t, h => by
    rw [stk_succ] at h
    split at h
    · rcases List.mem_cons.1 h with rfl | h
      · omega
      · have := stk_lt cs k t h; omega
    · split at h
      · have := stk_lt cs k t (List.mem_of_mem_tail h); omega
      · have := stk_lt cs k t h; omega
theorem stk_len (cs : List Int) : ∀ k, (stk cs k).length ≤ k
  | 0 => Nat.le_refl _
  | k + 1 => by
    have := stk_len cs k
    rw [stk_succ]
    split
    · simp only [List.length_cons]; omega
    · split
      · rw [List.length_tail]; omega
      · omega
theorem mt_ge (cs : List Int) : ∀ k i, k ≤ i → mt cs k i = -1
  | 0, _, _ => rfl
  | k + 1, i, h => by
    rw [mt_succ, mt_ge cs k i (by omega)]
    split
    · rfl
    · split
      · split
        · rename_i t s hs
          have := stk_lt cs k t (by rw [hs]; simp)
          rw [if_neg (by omega), if_neg (by omega)]
        · rfl
      · rfl

theorem match_F (cs : List Int) (hn : cs.length ≤ 4194304) : isolate_Match_F cs = some (tab cs.length fun i => mt cs cs.length i) := by
  unfold isolate_Match_F isolate_Match_T
  refine Post.run (Post.bnd (mk_eq (k := cs.length) rfl (by omega)) (Post.bnd (count (L := fun s : List Int × List Int × List Int × Int × Int => isolate_Match_L4 s.1 s.2.1 s.2.2.1 s.2.2.2.1 s.2.2.2.2) cs.length
    (fun k => (tab cs.length (fun i => if i < k then mt cs k i else 0), (stk cs k).reverse.map (fun (t : Nat) => (t : Int)), cs, (cs.length : Int), (k : Int))) ?_ (fun k hk => ?_) ?_) (Post.pure rfl)))
  · rw [tab_rep]; simp [stk]
  · dsimp only
    have hsl := stk_len cs k
    have hk1 : IntKind.i64.wrap ((k : Int) + 1) = ((k + 1 : Nat) : Int) := by rw [wrap64 (by omega) (by omega)]; omega
    have hset : (tab cs.length (fun i => if i < k then mt cs k i else 0)).set k (-1) = tab cs.length (fun i => if i < k + 1 then mt cs k i else 0) := by
      rw [tab_set]
      refine tab_congr fun p hp => ?_
      by_cases e : p = k
      · subst e; rw [if_pos rfl, if_pos (by omega), mt_ge cs p p (Nat.le_refl _)]
      · by_cases h : p < k
        · rw [if_neg e, if_pos h, if_pos (by omega)]
        · rw [if_neg e, if_neg h, if_neg (by omega)]
    unfold isolate_Match_L4
    rw [hk1]
    refine Post.brT (by simpa using hk) (Post.idx 0 k rfl hk (Post.idx 0 k rfl (by rw [tab_len]; exact hk) (Post.bnd (isolate_F _) ?_)))
    rw [Int.toNat_natCast, hset]
    generalize hc : cs.getD k 0 = c
    refine Post.br (fun hi => ?_) (fun hi => ?_)
    · have hs : stk cs (k + 1) = k :: stk cs k := by rw [stk_succ, hc, if_pos hi]
      have hm : ∀ i, mt cs (k + 1) i = mt cs k i := fun i => by rw [mt_succ, hc, if_pos hi]
      refine Post.bnd (app_eq (by simp; omega)) (Post.brF ?_ (Post.pure ?_))
      · simp only [beq_eq_false_iff_ne, ne_eq]
        rintro rfl; cases hi
      · rw [hs]
        simp only [hm, List.reverse_cons, List.map_append, List.map_cons, List.map_nil]
    · refine Post.br (fun h2 => ?_) (fun h2 => Post.pure ?_)
      · have h2 : c = 22 := by simpa using h2
        have hs : stk cs (k + 1) = (stk cs k).tail := by rw [stk_succ, hc, if_neg (by rw [hi]; simp), if_pos h2]
        cases hst : stk cs k with
        | nil =>
          have hm : ∀ i, mt cs (k + 1) i = mt cs k i := fun i => by rw [mt_succ, hc, if_neg (by rw [hi]; simp), if_pos h2, hst]
          refine Post.brF (by simp) (Post.pure ?_)
          rw [hs, hst]
          simp only [hm, List.tail_nil]
        | cons t s =>
          have htk := stk_lt cs k t (by rw [hst]; simp)
          rw [hst] at hsl
          simp only [List.length_cons] at hsl
          have hm : ∀ i, mt cs (k + 1) i = if i = t then (k : Int) else if i = k then (t : Int) else mt cs k i := fun i => by rw [mt_succ, hc, if_neg (by rw [hi]; simp), if_pos h2, hst]
          have hl : ((t :: s).reverse.map (fun (t : Nat) => (t : Int))).length = s.length + 1 := by simp
          have hw : IntKind.i64.wrap ((((t :: s).reverse.map (fun (t : Nat) => (t : Int))).length : Int) - 1) = (s.length : Int) := by
            rw [hl, wrap64 (by omega) (by omega)]; omega
          have hg : ((t :: s).reverse.map (fun (t : Nat) => (t : Int))).getD s.length 0 = (t : Int) := by
            rw [List.reverse_cons, List.map_append, List.getD_eq_getElem?_getD, List.getElem?_append_right (by simp)]; simp
          rw [hw]
          refine Post.brT (by rw [hl]; exact decide_eq_true (by omega)) (Post.idx 0 s.length rfl (by rw [hl]; omega) (Post.idx 0 s.length rfl (by rw [hl]; omega) ?_))
          rw [hg]
          refine Post.idx 0 k rfl (by rw [tab_len]; exact hk) ?_
          rw [tab_set]
          refine Post.idx 0 t rfl (by rw [tab_len]; omega) (Post.bnd (cut_take (n := s.length) rfl (by rw [hl]; omega)) (Post.pure ?_))
          rw [Int.toNat_natCast, tab_set, hs, hst, List.tail_cons]
          have e1 : ((t :: s).reverse.map (fun (t : Nat) => (t : Int))).take s.length = s.reverse.map (fun (t : Nat) => (t : Int)) := by
            rw [List.reverse_cons, List.map_append, List.take_append_of_le_length (by simp), List.take_of_length_le (by simp)]
          have e2 : tab cs.length (fun i => if i = t then (k : Int) else if i = k then (t : Int) else if i < k + 1 then mt cs k i else 0) = tab cs.length (fun i => if i < k + 1 then mt cs (k + 1) i else 0) := tab_congr fun p hp => by
            rw [hm]
            by_cases a1 : p = t
            · rw [if_pos a1, if_pos (by omega), if_pos a1]
            · by_cases a2 : p = k
              · rw [if_neg a1, if_pos a2, if_pos (by omega), if_neg a1, if_pos a2]
              · rw [if_neg a1, if_neg a2, if_neg a1, if_neg a2]
          rw [e1, ← e2]
      · have h2 : ¬ c = 22 := by simpa using h2
        have hs : stk cs (k + 1) = stk cs k := by rw [stk_succ, hc, if_neg (by rw [hi]; simp), if_neg h2]
        have hm : ∀ i, mt cs (k + 1) i = mt cs k i := fun i => by rw [mt_succ, hc, if_neg (by rw [hi]; simp), if_neg h2]
        rw [hs]
        simp only [hm]
  · dsimp only
    unfold isolate_Match_L4
    refine Post.brF (by simp) (Post.pure ?_)
    have e : tab cs.length (fun i => if i < cs.length then mt cs cs.length i else 0) = tab cs.length (fun i => mt cs cs.length i) := tab_congr fun p hp => by rw [if_pos hp]
    rw [e]

/-- what begins an isolate is closed behind it, or never -/
theorem mt_fwd (cs : List Int) {i : Nat} (hi : iso (cs.getD i 0) = true) : ∀ K, mt cs K i = -1 ∨ ∃ p : Nat, mt cs K i = (p : Int) ∧ i < p ∧ p < K
  | 0 => .inl rfl
  | K + 1 => by
    have ih := mt_fwd cs hi K
    have up : (mt cs K i = -1 ∨ ∃ p : Nat, mt cs K i = (p : Int) ∧ i < p ∧ p < K) → (mt cs K i = -1 ∨ ∃ p : Nat, mt cs K i = (p : Int) ∧ i < p ∧ p < K + 1) := fun h => h.imp id (fun ⟨p, h1, h2, h3⟩ => ⟨p, h1, h2, by omega⟩)
    rw [mt_succ]
    split
    · exact up ih
    · split
      · rename_i h2
        split
        · rename_i t s hs
          have ht := stk_lt cs K t (by rw [hs]; simp)
          by_cases e : i = t
          · rw [if_pos e]; exact .inr ⟨K, rfl, by omega, by omega⟩
          · have e2 : i ≠ K := fun e2 => by rw [e2, h2] at hi; cases hi
            rw [if_neg e, if_neg e2]; exact up ih
        · exact up ih
      · exact up ih

end Go.Proofs.Ytjiehphakabflaa
