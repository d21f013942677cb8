import Derived.Test.YtenbhmjcoljddaaGreatDoorLvE
namespace Go.Proofs.YtenbhmjcoljddaaGreatDoor.Ex
set_option linter.all false
def runStep (lv : Nat → Int) (i : Nat) (s : List (List Int) × List Int) : List (List Int) × List Int :=
 if lv i = -1 then s else match s.2 with
  | [] => (s.1, [(i : Int)])
  | p :: r => if lv p.toNat = lv i then (s.1, (p :: r) ++ [(i : Int)]) else (s.1 ++ [p :: r], [(i : Int)])
def runsTo (lv : Nat → Int) : Nat → List (List Int) × List Int
 | 0 => ([], [])
 | i + 1 => runStep lv i (runsTo lv i)
def runsOf (lv : Nat → Int) (n : Nat) : List (List Int) := match (runsTo lv n).2 with | [] => (runsTo lv n).1 | p :: r => (runsTo lv n).1 ++ [p :: r]
theorem runStep_skip {lv : Nat → Int} {i : Nat} {s : List (List Int) × List Int} (h : lv i = -1) : runStep lv i s = s := by unfold runStep; rw [if_pos h]
theorem runStep_first {lv : Nat → Int} {i : Nat} {a : List (List Int)} (h : lv i ≠ -1) : runStep lv i (a, []) = (a, [(i : Int)]) := by unfold runStep; rw [if_neg h]
theorem runStep_more {lv : Nat → Int} {i : Nat} {a : List (List Int)} {p : Int} {r : List Int} (h : lv i ≠ -1) (e : lv p.toNat = lv i) : runStep lv i (a, p :: r) = (a, (p :: r) ++ [(i : Int)]) := by
 unfold runStep; rw [if_neg h]; simp [e]
theorem runStep_new {lv : Nat → Int} {i : Nat} {a : List (List Int)} {p : Int} {r : List Int} (h : lv i ≠ -1) (e : lv p.toNat ≠ lv i) : runStep lv i (a, p :: r) = (a ++ [p :: r], [(i : Int)]) := by
 unfold runStep; rw [if_neg h]; simp [e]
def Place (lv : Nat → Int) (i : Nat) (p : Int) : Prop := ∃ q, q < i ∧ p = (q : Int) ∧ lv q ≠ -1
theorem Place.mono {lv : Nat → Int} {i j : Nat} {p : Int} (h : Place lv i p) (hj : i ≤ j) : Place lv j p := by
 obtain ⟨q, h1, h2, h3⟩ := h; exact ⟨q, by omega, h2, h3⟩
structure RunsAt (lv : Nat → Int) (i : Nat) (s : List (List Int) × List Int) : Prop where
 few : s.1.length ≤ i ∧ s.2.length ≤ i
 old : ∀ r ∈ s.1, r ≠ [] ∧ ∀ p ∈ r, Place lv i p
 new : ∀ p ∈ s.2, Place lv i p
 first : s.2 = [] → s.1 = [] ∧ ∀ q, q < i → lv q = -1
theorem runsAt (lv : Nat → Int) : ∀ i, RunsAt lv i (runsTo lv i)
 | 0 => ⟨by simp [runsTo], fun r hr => (by cases hr), fun p hp => (by cases hp), fun _ => ⟨rfl, fun q hq => (by omega)⟩⟩
 | i + 1 => by
  have ih := runsAt lv i
  unfold runsTo
  generalize runsTo lv i = s at ih
  obtain ⟨a, run⟩ := s
  have o : ∀ r ∈ a, r ≠ [] ∧ ∀ p ∈ r, Place lv (i + 1) p := fun r hr => ⟨(ih.old r hr).1, fun p hp => ((ih.old r hr).2 p hp).mono (by omega)⟩
  have n : ∀ p ∈ run, Place lv (i + 1) p := fun p hp => (ih.new p hp).mono (by omega)
  have f := ih.few
  dsimp only at f
  by_cases h : lv i = -1
  ·rw [runStep_skip h]
   refine ⟨by dsimp only; omega, o, n, fun e => ⟨(ih.first e).1, fun q hq => ?_⟩⟩
   by_cases e2 : q = i
   ·subst e2; exact h
   ·exact (ih.first e).2 q (by omega)
  ·have hi : Place lv (i + 1) (i : Int) := ⟨i, by omega, rfl, h⟩
   cases run with
   | nil =>
    rw [runStep_first h]
    refine ⟨by simp; omega, o, fun p hp => ?_, fun e => by cases e⟩
    simp only [List.mem_singleton] at hp
    subst hp; exact hi
   | cons p r =>
    by_cases e : lv p.toNat = lv i
    ·rw [runStep_more h e]
     refine ⟨by simp at f ⊢; omega, o, fun x hx => ?_, fun e => by simp at e⟩
     rcases List.mem_append.1 hx with hx | hx
     ·exact n x hx
     ·simp only [List.mem_singleton] at hx
      subst hx; exact hi
    ·rw [runStep_new h e]
     refine ⟨by simp at f ⊢; omega, fun x hx => ?_, fun x hx => ?_, fun e => by cases e⟩
     ·rcases List.mem_append.1 hx with hx | hx
      ·exact o x hx
      ·simp only [List.mem_singleton] at hx
       subst hx; exact ⟨by simp, n⟩
     ·simp only [List.mem_singleton] at hx
      subst hx; exact hi
theorem runs_F (xs : List Int) (hn : xs.length ≤ 4194304) : runs_Of_F xs = some (runsOf (fun i => xs.getD i 0) xs.length) := by
 unfold runs_Of_F runs_Of_T
 have hl := loopW_count (f := fun s : List Int × List (List Int) × List Int × List Int × Int × Int => (runs_Of_L4 s.1 s.2.1 s.2.2.1 s.2.2.2.1 s.2.2.2.2.1 s.2.2.2.2.2).run) xs.length
  (fun k => (xs, (runsTo (fun i => xs.getD i 0) k).1, (runsTo (fun i => xs.getD i 0) k).2, xs, (xs.length : Int), (k : Int))) (r := ((runsTo (fun i => xs.getD i 0) xs.length).1, (runsTo (fun i => xs.getD i 0) xs.length).2)) ?_ ?_
 ·rw [show ((0 : Nat) : Int) = 0 from rfl, show runsTo (fun i => xs.getD i 0) 0 = ([], []) from rfl] at hl
  rw [Tr.run_bnd_some hl, Tr.run_br]
  dsimp only
  unfold runsOf
  have f := (runsAt (fun i => xs.getD i 0) xs.length).few
  cases hr : (runsTo (fun i => xs.getD i 0) xs.length).2 with
  | nil =>
   rw [if_neg (by simp), Tr.run_pure]
  | cons p r =>
   rw [if_pos (by simp), Tr.run_bnd_some (app_eq (by simp only [List.length_cons, List.length_nil]; omega)), Tr.run_pure]
 ·intro k hk
  dsimp only
  have ih := runsAt (fun i => xs.getD i 0) k
  rw [show runsTo (fun i => xs.getD i 0) (k + 1) = runStep (fun i => xs.getD i 0) k (runsTo (fun i => xs.getD i 0) k) from rfl]
  generalize runsTo (fun i => xs.getD i 0) k = s at ih
  obtain ⟨a, run⟩ := s
  have f := ih.few
  dsimp only at f ⊢
  unfold runs_Of_L4
  rw [Tr.run_br, if_pos (by simp; omega), Tr.run_bnd_some (idx_getD 0 rfl hk), Tr.run_br, wrap64 (by omega) (by omega)]
  by_cases h : xs.getD k 0 = -1
  ·rw [if_pos (by simpa using h), Tr.run_pure, runStep_skip h]
   rfl
  ·rw [if_neg (by simpa using h), Tr.run_br]
   cases run with
   | nil =>
    rw [if_neg (by simp), Tr.run_bnd_some (app_eq (by simp)), Tr.run_pure, runStep_first h]
    rfl
   | cons p r =>
    obtain ⟨q, hq, rfl, hq1⟩ := ih.new p (by simp)
    have i0 : idx ((q : Int) :: r) 0 = some (q : Int) := idx_get (k := 0) rfl (by simp)
    rw [if_pos (by simp), Tr.run_bnd_some i0, Tr.run_bnd_some (idx_getD 0 rfl (show q < xs.length by omega)), Tr.run_br]
    by_cases e : xs.getD q 0 = xs.getD k 0
    ·rw [if_neg (by rw [e]; simp), Tr.run_bnd_some (app_eq (by simp at f ⊢; omega)), Tr.run_pure, runStep_more h e]
     rfl
    ·rw [if_pos (by simpa using e), Tr.run_bnd_some (app_eq (by simp; omega)), Tr.run_bnd_some (app_eq (by simp)), Tr.run_pure, runStep_new h e]
     rfl
 ·dsimp only
  unfold runs_Of_L4
  rw [Tr.run_br, if_neg (by simp), Tr.run_pure]
theorem runsTo_congr {lv mv : Nat → Int} : ∀ {n : Nat}, (∀ i, i < n → lv i = mv i) → runsTo lv n = runsTo mv n
 | 0, _ => rfl
 | n + 1, h => by
  have ih := runsTo_congr (n := n) (fun i hi => h i (by omega))
  have ha := runsAt mv n
  unfold runsTo
  rw [ih]
  unfold runStep
  rw [h n (by omega)]
  split
  ·rfl
  ·split
   ·rfl
   ·rename_i p r hr
    obtain ⟨q, hq, rfl, _⟩ := ha.new p (by rw [hr]; simp)
    rw [show lv (Int.toNat (q : Int)) = mv (Int.toNat (q : Int)) from h q (by omega)]
theorem runs_tab {lv : Nat → Int} {n : Nat} (hn : n ≤ 4194304) : runs_Of_F (tab n lv) = some (runsOf lv n) := by
 rw [runs_F _ (by rw [tab_len]; exact hn), tab_len]
 congr 1
 have : runsTo (fun i => (tab n lv).getD i 0) n = runsTo lv n := runsTo_congr fun i hi => by simp [List.getD, tab_get _ hi]
 unfold runsOf
 rw [this]
theorem runsOf_ne (lv : Nat → Int) (n : Nat) : ∀ r ∈ runsOf lv n, r ≠ [] := by
 intro r hr
 have ha := runsAt lv n
 unfold runsOf at hr
 cases h2 : (runsTo lv n).2 with
 | nil =>
  rw [h2] at hr
  exact (ha.old r hr).1
 | cons p q =>
  rw [h2] at hr
  rcases List.mem_append.1 hr with h | h
  ·exact (ha.old r h).1
  ·simp only [List.mem_singleton] at h
   subst h; simp
def Chain (lv : Nat → Int) : Nat → List Int → Nat → Prop
 | a, [], b => a ≤ b ∧ ∀ x, a ≤ x → x < b → lv x = -1
 | a, p :: r, b => ∃ q : Nat, p = (q : Int) ∧ a ≤ q ∧ (∀ x, a ≤ x → x < q → lv x = -1) ∧ lv q ≠ -1 ∧ Chain lv (q + 1) r b
theorem Chain.le {lv : Nat → Int} : ∀ {l : List Int} {a b : Nat}, Chain lv a l b → a ≤ b
 | [], a, b, h => h.1
 | p :: r, a, b, h => by
  obtain ⟨q, _, h1, _, _, h2⟩ := h
  have := h2.le
  omega
theorem Chain.snoc {lv : Nat → Int} : ∀ {l : List Int} {a b : Nat}, Chain lv a l b → lv b ≠ -1 → Chain lv a (l ++ [(b : Int)]) (b + 1)
 | [], a, b, h, hb => ⟨b, rfl, h.1, h.2, hb, by omega, fun x h1 h2 => by omega⟩
 | p :: r, a, b, h, hb => by
  obtain ⟨q, h0, h1, h2, h3, h4⟩ := h
  exact ⟨q, h0, h1, h2, h3, h4.snoc hb⟩
theorem Chain.skip {lv : Nat → Int} : ∀ {l : List Int} {a b : Nat}, Chain lv a l b → lv b = -1 → Chain lv a l (b + 1)
 | [], a, b, h, hb => ⟨by have := h.1; omega, fun x h1 h2 => by
   by_cases e : x = b
   ·subst e; exact hb
   ·exact h.2 x h1 (by omega)⟩
 | p :: r, a, b, h, hb => by
  obtain ⟨q, h0, h1, h2, h3, h4⟩ := h
  exact ⟨q, h0, h1, h2, h3, h4.skip hb⟩
def AltRuns (lv : Nat → Int) : Int → List (List Int) → Prop
 | _, [] => True
 | last, r :: rs => ∃ p t, r = p :: t ∧ lv p.toNat ≠ last ∧ (∀ x ∈ r, lv x.toNat = lv p.toNat) ∧ AltRuns lv (lv p.toNat) rs
theorem alt_more {lv : Nat → Int} {p i : Int} {r : List Int} (e : lv p.toNat = lv i.toNat) : ∀ {a : List (List Int)} {last : Int}, AltRuns lv last (a ++ [p :: r]) → AltRuns lv last (a ++ [(p :: r) ++ [i]])
 | [], last, h => by
  obtain ⟨p', t, h0, h1, h2, _⟩ := h
  cases h0
  refine ⟨p, r ++ [i], rfl, h1, fun x hx => ?_, trivial⟩
  rcases List.mem_append.1 hx with hx | hx
  ·exact h2 x hx
  ·simp only [List.mem_singleton] at hx
   subst hx; exact e.symm
 | b :: a, last, h => by
  obtain ⟨p', t, h0, h1, h2, h3⟩ := h
  exact ⟨p', t, h0, h1, h2, alt_more e h3⟩
theorem alt_new {lv : Nat → Int} {p i : Int} {r : List Int} (e : lv p.toNat ≠ lv i.toNat) : ∀ {a : List (List Int)} {last : Int}, AltRuns lv last (a ++ [p :: r]) → AltRuns lv last ((a ++ [p :: r]) ++ [[i]])
 | [], last, h => by
  obtain ⟨p', t, h0, h1, h2, _⟩ := h
  cases h0
  refine ⟨p, r, rfl, h1, h2, i, [], rfl, fun x => e x.symm, fun x hx => ?_, trivial⟩
  simp only [List.mem_singleton] at hx
  subst hx; rfl
 | b :: a, last, h => by
  obtain ⟨p', t, h0, h1, h2, h3⟩ := h
  exact ⟨p', t, h0, h1, h2, alt_new e h3⟩
theorem runs_good (lv : Nat → Int) (hr : ∀ i, lv i ≠ -5) : ∀ n, Chain lv 0 ((runsTo lv n).1.flatten ++ (runsTo lv n).2) n ∧ (∀ p r, (runsTo lv n).2 = p :: r → AltRuns lv (-5) ((runsTo lv n).1 ++ [p :: r]))
 | 0 => ⟨⟨by omega, fun x _ h => by omega⟩, fun p r h => by cases h⟩
 | n + 1 => by
  have ih := runs_good lv hr n
  have ha := runsAt lv n
  unfold runsTo
  generalize runsTo lv n = s at ih ha
  obtain ⟨a, run⟩ := s
  obtain ⟨h1, h2⟩ := ih
  dsimp only at h1 h2
  by_cases h : lv n = -1
  ·rw [runStep_skip h]
   exact ⟨h1.skip h, h2⟩
  ·have hc := h1.snoc h
   cases run with
   | nil =>
    rw [runStep_first h]
    rw [List.append_nil] at hc
    refine ⟨hc, fun p r e => ?_⟩
    cases e
    have e0 : a = [] := (ha.first rfl).1
    subst e0
    refine ⟨(n : Int), [], rfl, hr n, fun x hx => ?_, trivial⟩
    simp only [List.mem_singleton] at hx
    subst hx; rfl
   | cons p r =>
    by_cases e : lv p.toNat = lv n
    ·rw [runStep_more h e]
     refine ⟨by rw [← List.append_assoc]; exact hc, fun p' r' e' => ?_⟩
     rw [← e']
     exact alt_more (i := (n : Int)) e (h2 p r rfl)
    ·rw [runStep_new h e]
     refine ⟨?_, fun p' r' e' => ?_⟩
     ·simpa using hc
     ·cases e'
      exact alt_new (i := (n : Int)) e (h2 p r rfl)
theorem runsOf_good (lv : Nat → Int) (hr : ∀ i, lv i ≠ -5) (n : Nat) : Chain lv 0 (runsOf lv n).flatten n ∧ AltRuns lv (-5) (runsOf lv n) := by
 have h := runs_good lv hr n
 have ha := runsAt lv n
 unfold runsOf
 generalize runsTo lv n = s at h ha
 obtain ⟨a, run⟩ := s
 cases run with
 | nil =>
  have e0 : a = [] := (ha.first rfl).1
  subst e0
  exact ⟨by simpa using h.1, trivial⟩
 | cons p r => exact ⟨by simpa using h.1, h.2 p r rfl⟩
def stk (cs : List Int) : Nat → List Nat
 | 0 => []
 | k + 1 => if iso (cs.getD k 0) = true then k :: stk cs k else if cs.getD k 0 = 22 then (stk cs k).tail else stk cs k
def mt (cs : List Int) : Nat → Nat → Int
 | 0, _ => -1
 | k + 1, i => if iso (cs.getD k 0) = true then mt cs k i else if cs.getD k 0 = 22 then
   (match stk cs k with | t :: _ => if i = t then (k : Int) else if i = k then (t : Int) else mt cs k i | [] => mt cs k i) else mt cs k i
theorem stk_succ (cs : List Int) (k : Nat) : stk cs (k + 1) = if iso (cs.getD k 0) = true then k :: stk cs k else if cs.getD k 0 = 22 then (stk cs k).tail else stk cs k := rfl
theorem mt_succ (cs : List Int) (k i : Nat) : mt cs (k + 1) i = if iso (cs.getD k 0) = true then mt cs k i else if cs.getD k 0 = 22 then
   (match stk cs k with | t :: _ => if i = t then (k : Int) else if i = k then (t : Int) else mt cs k i | [] => mt cs k i) else mt cs k i := rfl
theorem stk_lt (cs : List Int) : ∀ k, ∀ t ∈ stk cs k, t < k
 | 0, t, h => by cases h
 | k + 1, t, h => by
  rw [stk_succ] at h
  split at h
  ·rcases List.mem_cons.1 h with rfl | h
   ·omega
   ·have := stk_lt cs k t h; omega
  ·split at h
   ·have := stk_lt cs k t (List.mem_of_mem_tail h); omega
   ·have := stk_lt cs k t h; omega
theorem stk_len (cs : List Int) : ∀ k, (stk cs k).length ≤ k
 | 0 => Nat.le_refl _
 | k + 1 => by
  have := stk_len cs k
  rw [stk_succ]
  split
  ·simp only [List.length_cons]; omega
  ·split
   ·rw [List.length_tail]; omega
   ·omega
theorem mt_ge (cs : List Int) : ∀ k i, k ≤ i → mt cs k i = -1
 | 0, _, _ => rfl
 | k + 1, i, h => by
  rw [mt_succ, mt_ge cs k i (by omega)]
  split
  ·rfl
  ·split
   ·split
    ·rename_i t s hs
     have := stk_lt cs k t (by rw [hs]; simp)
     rw [if_neg (by omega), if_neg (by omega)]
    ·rfl
   ·rfl
theorem match_F (cs : List Int) (hn : cs.length ≤ 4194304) : isolate_Match_F cs = some (tab cs.length fun i => mt cs cs.length i) := by
 unfold isolate_Match_F isolate_Match_T
 refine Post.run (Post.bnd (mk_eq (k := cs.length) rfl (by omega)) (Post.bnd (count (L := fun s : List Int × List Int × List Int × Int × Int => isolate_Match_L4 s.1 s.2.1 s.2.2.1 s.2.2.2.1 s.2.2.2.2) cs.length
  (fun k => (tab cs.length (fun i => if i < k then mt cs k i else 0), (stk cs k).reverse.map (fun (t : Nat) => (t : Int)), cs, (cs.length : Int), (k : Int))) ?_ (fun k hk => ?_) ?_) (Post.pure rfl)))
 ·rw [tab_rep]; simp [stk]
 ·dsimp only
  have hsl := stk_len cs k
  have hk1 : IntKind.i64.wrap ((k : Int) + 1) = ((k + 1 : Nat) : Int) := by rw [wrap64 (by omega) (by omega)]; omega
  have hset : (tab cs.length (fun i => if i < k then mt cs k i else 0)).set k (-1) = tab cs.length (fun i => if i < k + 1 then mt cs k i else 0) := by
   rw [tab_set]
   refine tab_congr fun p hp => ?_
   by_cases e : p = k
   ·subst e; rw [if_pos rfl, if_pos (by omega), mt_ge cs p p (Nat.le_refl _)]
   ·by_cases h : p < k
    ·rw [if_neg e, if_pos h, if_pos (by omega)]
    ·rw [if_neg e, if_neg h, if_neg (by omega)]
  unfold isolate_Match_L4
  rw [hk1]
  refine Post.brT (by simpa using hk) (Post.idx 0 k rfl hk (Post.idx 0 k rfl (by rw [tab_len]; exact hk) (Post.bnd (isolate_F _) ?_)))
  rw [Int.toNat_natCast, hset]
  generalize hc : cs.getD k 0 = c
  refine Post.br (fun hi => ?_) (fun hi => ?_)
  ·have hs : stk cs (k + 1) = k :: stk cs k := by rw [stk_succ, hc, if_pos hi]
   have hm : ∀ i, mt cs (k + 1) i = mt cs k i := fun i => by rw [mt_succ, hc, if_pos hi]
   refine Post.bnd (app_eq (by simp; omega)) (Post.brF ?_ (Post.pure ?_))
   ·simp only [beq_eq_false_iff_ne, ne_eq]
    rintro rfl; cases hi
   ·rw [hs]
    simp only [hm, List.reverse_cons, List.map_append, List.map_cons, List.map_nil]
  ·refine Post.br (fun h2 => ?_) (fun h2 => Post.pure ?_)
   ·have h2 : c = 22 := by simpa using h2
    have hs : stk cs (k + 1) = (stk cs k).tail := by rw [stk_succ, hc, if_neg (by rw [hi]; simp), if_pos h2]
    cases hst : stk cs k with
    | nil =>
     have hm : ∀ i, mt cs (k + 1) i = mt cs k i := fun i => by rw [mt_succ, hc, if_neg (by rw [hi]; simp), if_pos h2, hst]
     refine Post.brF (by simp) (Post.pure ?_)
     rw [hs, hst]
     simp only [hm, List.tail_nil]
    | cons t s =>
     have htk := stk_lt cs k t (by rw [hst]; simp)
     rw [hst] at hsl
     simp only [List.length_cons] at hsl
     have hm : ∀ i, mt cs (k + 1) i = if i = t then (k : Int) else if i = k then (t : Int) else mt cs k i := fun i => by rw [mt_succ, hc, if_neg (by rw [hi]; simp), if_pos h2, hst]
     have hl : ((t :: s).reverse.map (fun (t : Nat) => (t : Int))).length = s.length + 1 := by simp
     have hw : IntKind.i64.wrap ((((t :: s).reverse.map (fun (t : Nat) => (t : Int))).length : Int) - 1) = (s.length : Int) := by
      rw [hl, wrap64 (by omega) (by omega)]; omega
     have hg : ((t :: s).reverse.map (fun (t : Nat) => (t : Int))).getD s.length 0 = (t : Int) := by
      rw [List.reverse_cons, List.map_append, List.getD_eq_getElem?_getD, List.getElem?_append_right (by simp)]; simp
     rw [hw]
     refine Post.brT (by rw [hl]; exact decide_eq_true (by omega)) (Post.idx 0 s.length rfl (by rw [hl]; omega) (Post.idx 0 s.length rfl (by rw [hl]; omega) ?_))
     rw [hg]
     refine Post.idx 0 k rfl (by rw [tab_len]; exact hk) ?_
     rw [tab_set]
     refine Post.idx 0 t rfl (by rw [tab_len]; omega) (Post.bnd (cut_take (n := s.length) rfl (by rw [hl]; omega)) (Post.pure ?_))
     rw [Int.toNat_natCast, tab_set, hs, hst, List.tail_cons]
     have e1 : ((t :: s).reverse.map (fun (t : Nat) => (t : Int))).take s.length = s.reverse.map (fun (t : Nat) => (t : Int)) := by
      rw [List.reverse_cons, List.map_append, List.take_append_of_le_length (by simp), List.take_of_length_le (by simp)]
     have e2 : tab cs.length (fun i => if i = t then (k : Int) else if i = k then (t : Int) else if i < k + 1 then mt cs k i else 0) = tab cs.length (fun i => if i < k + 1 then mt cs (k + 1) i else 0) := tab_congr fun p hp => by
      rw [hm]
      by_cases a1 : p = t
      ·rw [if_pos a1, if_pos (by omega), if_pos a1]
      ·by_cases a2 : p = k
       ·rw [if_neg a1, if_pos a2, if_pos (by omega), if_neg a1, if_pos a2]
       ·rw [if_neg a1, if_neg a2, if_neg a1, if_neg a2]
     rw [e1, ← e2]
   ·have h2 : ¬ c = 22 := by simpa using h2
    have hs : stk cs (k + 1) = stk cs k := by rw [stk_succ, hc, if_neg (by rw [hi]; simp), if_neg h2]
    have hm : ∀ i, mt cs (k + 1) i = mt cs k i := fun i => by rw [mt_succ, hc, if_neg (by rw [hi]; simp), if_neg h2]
    rw [hs]
    simp only [hm]
 ·dsimp only
  unfold isolate_Match_L4
  refine Post.brF (by simp) (Post.pure ?_)
  have e : tab cs.length (fun i => if i < cs.length then mt cs cs.length i else 0) = tab cs.length (fun i => mt cs cs.length i) := tab_congr fun p hp => by rw [if_pos hp]
  rw [e]
theorem mt_fwd (cs : List Int) {i : Nat} (hi : iso (cs.getD i 0) = true) : ∀ K, mt cs K i = -1 ∨ ∃ p : Nat, mt cs K i = (p : Int) ∧ i < p ∧ p < K
 | 0 => .inl rfl
 | K + 1 => by
  have ih := mt_fwd cs hi K
  have up : (mt cs K i = -1 ∨ ∃ p : Nat, mt cs K i = (p : Int) ∧ i < p ∧ p < K) → (mt cs K i = -1 ∨ ∃ p : Nat, mt cs K i = (p : Int) ∧ i < p ∧ p < K + 1) := fun h => h.imp id (fun ⟨p, h1, h2, h3⟩ => ⟨p, h1, h2, by omega⟩)
  rw [mt_succ]
  split
  ·exact up ih
  ·split
   ·rename_i h2
    split
    ·rename_i t s hs
     have ht := stk_lt cs K t (by rw [hs]; simp)
     by_cases e : i = t
     ·rw [if_pos e]; exact .inr ⟨K, rfl, by omega, by omega⟩
     ·have e2 : i ≠ K := fun e2 => by rw [e2, h2] at hi; cases hi
      rw [if_neg e, if_neg e2]; exact up ih
    ·exact up ih
   ·exact up ih
theorem wrapU64 {n : Int} (h1 : 0 ≤ n) (h2 : n ≤ 18446744073709551615) : IntKind.u64.wrap n = n := by
 simp only [IntKind.wrap, IntKind.signed, IntKind.bits]
 simp
 omega
theorem mask32 {n : Nat} (hn : n ≤ 4294967295) : ibits .and .u64 (n : Int) 4294967295 = (n : Int) := by
 have e : ibits .and .u64 (n : Int) 4294967295 = IntKind.u64.wrap ((BitVec.ofInt 64 (n : Int) &&& BitVec.ofInt 64 ((4294967295 : Nat) : Int)).toNat : Int) := rfl
 rw [e, BitVec.ofInt_natCast, BitVec.ofInt_natCast, BitVec.toNat_and, BitVec.toNat_ofNat, BitVec.toNat_ofNat, Nat.mod_eq_of_lt (by omega), Nat.mod_eq_of_lt (by omega), show (4294967295 : Nat) = 2 ^ 32 - 1 from rfl, Nat.and_two_pow_sub_one_eq_mod, Nat.mod_eq_of_lt (by omega), wrapU64 (by omega) (by omega)]
theorem shr32 {n : Nat} (hn : n ≤ 4294967295) : shiftBy .shr .u64 (n : Int) 32 = 0 := by
 have e : shiftBy .shr .u64 (n : Int) 32 = (n : Int).fdiv 4294967296 := rfl
 rw [e, Int.fdiv_eq_ediv_of_nonneg _ (by omega)]
 omega
theorem mul_one {n : Nat} (hn : n ≤ 4294967295) : bits_Mul_F 1 (n : Int) = some (0, (n : Int)) := by
 have h : bits_Mul64_F 1 (n : Int) = some (0, (n : Int)) := by
  unfold bits_Mul64_F bits_Mul64_T
  have s1 : shiftBy .shr .u64 1 32 = 0 := rfl
  have a1 : ibits .and .u64 1 4294967295 = 1 := mask32 (n := 1) (by omega)
  have w0 : IntKind.u64.wrap 0 = 0 := rfl
  have wn : IntKind.u64.wrap (n : Int) = (n : Int) := wrapU64 (by omega) (by omega)
  have z0 : shiftBy .shr .u64 0 32 = 0 := rfl
  have m0 : ibits .and .u64 0 4294967295 = 0 := mask32 (n := 0) (by omega)
  rw [Tr.run_pure]
  simp only [s1, a1, shr32 hn, mask32 hn, Int.zero_mul, Int.mul_zero, Int.one_mul, Int.zero_add, Int.add_zero, w0, wn, z0, m0]
 unfold bits_Mul_F bits_Mul_T
 exact Post.run (Post.bnd h (Post.pure rfl))
theorem repeat_F {n : Nat} (hn : n ≤ 4194304) : slices_Repeat___int_int__F [-1] (n : Int) = some (List.replicate n (-1)) := by
 unfold slices_Repeat___int_int__F slices_Repeat___int_int__T
 have e1 : IntKind.u64.wrap ((([-1] : List Int)).length : Int) = 1 := rfl
 rw [e1, wrapU64 (n := (n : Int)) (by omega) (by omega)]
 refine Post.run (Post.brF (decide_eq_false (by omega)) (Post.bnd (mul_one (by omega)) (Post.brF rfl (Post.brF (decide_eq_false (by dsimp only; omega)) (Post.bnd (mk_eq (k := n) (by dsimp only; rw [wrap64 (by omega) (by omega)]) (by omega)) ?_)))))
 obtain ⟨z, hz, rfl⟩ := loop_ex (L := fun s : List Int × Int => slices_Repeat___int_int__L8 s.1 s.2)
  (I := fun s => ∃ k : Nat, k ≤ n ∧ (k = 0 → n = 0) ∧ s = (List.replicate k (-1) ++ List.replicate (n - k) 0, (k : Int)))
  (m := fun s => n - s.2.toNat) (R := fun z => z = List.replicate n (-1))
  (s0 := (([-1] : List Int).take (List.replicate n (0 : Int)).length ++ (List.replicate n (0 : Int)).drop ([-1] : List Int).length, ((min ([-1] : List Int).length (List.replicate n (0 : Int)).length : Nat) : Int)))
  (by
   rintro s ⟨k, h1, h2, rfl⟩
   dsimp only
   unfold slices_Repeat___int_int__L8
   have hl : (List.replicate k (-1) ++ List.replicate (n - k) (0 : Int)).length = n := by rw [List.length_append, List.length_replicate, List.length_replicate]; omega
   rw [hl]
   refine Post.br (fun c => ?_) (fun c => Post.pure ?_)
   ·rw [decide_eq_true_eq] at c
    refine Post.bnd (cut_drop (m := k) (n := n) rfl rfl h1 (by omega)) (Post.bnd (cut_take (n := k) rfl (by omega)) (Post.pure ?_))
    rw [toNat_nat]
    have t1 : (List.replicate k (-1) ++ List.replicate (n - k) (0 : Int)).take n = List.replicate k (-1) ++ List.replicate (n - k) (0 : Int) := List.take_of_length_le (by omega)
    have t2 : (List.replicate k (-1) ++ List.replicate (n - k) (0 : Int)).drop k = List.replicate (n - k) (0 : Int) := by
     rw [List.drop_append_of_le_length (by rw [List.length_replicate]; omega), List.drop_of_length_le (by rw [List.length_replicate]; omega), List.nil_append]
    have t3 : (List.replicate k (-1) ++ List.replicate (n - k) (0 : Int)).take k = List.replicate k (-1) := by
     rw [List.take_append_of_le_length (by rw [List.length_replicate]; omega), List.take_of_length_le (by rw [List.length_replicate]; omega)]
    unfold splice'
    rw [t1, t2, t3, List.length_replicate, List.take_of_length_le (l := List.replicate (n - k) (0 : Int)) (by rw [List.length_replicate]; omega), List.length_replicate, List.take_replicate, List.drop_replicate, List.length_replicate,
     List.drop_of_length_le (by omega), List.append_nil, ← List.append_assoc, List.replicate_append_replicate]
    have hw : IntKind.i64.wrap ((k : Int) + ((min k (n - k) : Nat) : Int)) = ((k + min k (n - k) : Nat) : Int) := by rw [wrap64 (by omega) (by omega)]; omega
    rw [hw]
    refine ⟨⟨k + min k (n - k), by omega, by omega, ?_⟩, by dsimp only; omega⟩
    rw [show min (n - k) k = min k (n - k) by omega, show n - k - k = n - (k + min k (n - k)) by omega]
   ·rw [decide_eq_false_iff_not] at c
    have : k = n := by omega
    subst this
    simp)
  (by
   by_cases e : n = 0
   ·subst e; exact ⟨0, by omega, fun _ => rfl, rfl⟩
   ·refine ⟨1, by omega, fun h => by omega, ?_⟩
    rw [List.length_replicate, List.drop_replicate, List.take_of_length_le (by simp; omega), show min ([-1] : List Int).length n = 1 by simp; omega]
    rfl)
 exact Post.bnd hz (Post.pure rfl)
theorem getD_left {xs ys : List Int} {k : Nat} (h : k < xs.length) : (xs ++ ys).getD k 0 = xs.getD k 0 := by simp [List.getD, List.getElem?_append_left h]
def fs (rs : List (List Int)) (k : Nat) : Nat := ((rs.getD k []).getD 0 0).toNat
def ls (rs : List (List Int)) (k : Nat) : Nat := ((rs.getD k []).getD ((rs.getD k []).length - 1) 0).toNat
theorem chain_front {lv : Nat → Int} : ∀ {r : List Int} {s : List Int} {a b : Nat}, Chain lv a (r ++ s) b → r ≠ [] →
  ∃ f l : Nat, r.getD 0 0 = (f : Int) ∧ r.getD (r.length - 1) 0 = (l : Int) ∧ a ≤ f ∧ f ≤ l ∧ lv f ≠ -1 ∧ lv l ≠ -1 ∧ r.length + a ≤ l + 1 ∧ (∀ x, a ≤ x → x < f → lv x = -1) ∧ Chain lv (l + 1) s b
 | [], _, _, _, _, h => absurd rfl h
 | [p], s, a, b, h, _ => by
  obtain ⟨q, rfl, h1, h2, h3, h4⟩ := h
  exact ⟨q, q, rfl, rfl, h1, Nat.le_refl _, h3, h3, by simp only [List.length_cons, List.length_nil]; omega, h2, h4⟩
 | p :: q :: r, s, a, b, h, _ => by
  obtain ⟨x, rfl, h1, h2, h3, h4⟩ := h
  obtain ⟨f, l, g1, g2, g3, g4, g5, g6, g7, g8, g9⟩ := chain_front (r := q :: r) (s := s) h4 (by simp)
  refine ⟨x, l, rfl, ?_, h1, by omega, h3, g6, ?_, h2, g9⟩
  ·simpa using g2
  ·simp only [List.length_cons] at g7 ⊢; omega
structure Run (lv : Nat → Int) (rs : List (List Int)) (a b k : Nat) : Prop where
 fst : (rs.getD k []).getD 0 0 = (fs rs k : Int)
 lst : (rs.getD k []).getD ((rs.getD k []).length - 1) 0 = (ls rs k : Int)
 lo : a ≤ fs rs k
 le : fs rs k ≤ ls rs k
 hi : ls rs k < b
 pos : 0 < (rs.getD k []).length
 few : (rs.getD k []).length ≤ b
 gf : lv (fs rs k) ≠ -1
 gl : lv (ls rs k) ≠ -1
 front : k = 0 → ∀ x, a ≤ x → x < fs rs 0 → lv x = -1
 next : k + 1 < rs.length → ls rs k < fs rs (k + 1) ∧ ∀ x, ls rs k < x → x < fs rs (k + 1) → lv x = -1
 last : k + 1 = rs.length → ∀ x, ls rs k < x → x < b → lv x = -1
theorem runs_all {lv : Nat → Int} : ∀ {rs : List (List Int)} {a b : Nat}, Chain lv a rs.flatten b → (∀ r ∈ rs, r ≠ []) → ∀ k, k < rs.length → Run lv rs a b k
 | [], _, _, _, _, k, hk => by cases hk
 | r :: rs, a, b, h, hne, k, hk => by
  have h : Chain lv a (r ++ rs.flatten) b := h
  have hr := hne r (by simp)
  obtain ⟨f, l, g1, g2, g3, g4, g5, g6, g7, g8, g9⟩ := chain_front h hr
  have ih := runs_all g9 (fun r h => hne r (List.mem_cons_of_mem _ h))
  have hpos : 0 < r.length := List.length_pos_iff.2 hr
  have ef : fs (r :: rs) 0 = f := by unfold fs; rw [show (r :: rs).getD 0 [] = r from rfl, g1]; rfl
  have el : ls (r :: rs) 0 = l := by unfold ls; rw [show (r :: rs).getD 0 [] = r from rfl, g2]; rfl
  have sf : ∀ k, fs (r :: rs) (k + 1) = fs rs k := fun k => rfl
  have sl : ∀ k, ls (r :: rs) (k + 1) = ls rs k := fun k => rfl
  have hle := g9.le
  cases k with
  | zero =>
   refine ⟨by rw [ef]; exact g1, by rw [el]; exact g2, by rw [ef]; exact g3, by rw [ef, el]; exact g4, by rw [el]; omega, hpos, ?_, by rw [ef]; exact g5, by rw [el]; exact g6, fun _ => by rw [ef]; exact g8, fun h1 => ?_, fun h1 => ?_⟩
   ·show r.length ≤ b; omega
   ·have h1 : 0 < rs.length := by simpa using h1
    have i0 := ih 0 h1
    rw [el, sf]
    exact ⟨by have := i0.lo; omega, fun x x1 x2 => i0.front rfl x (by omega) x2⟩
   ·have h1 : rs = [] := by simpa using h1.symm
    subst h1
    rw [el]
    exact fun x x1 x2 => g9.2 x (by omega) x2
  | succ k =>
   have hk : k < rs.length := by simpa using hk
   have i := ih k hk
   refine ⟨i.fst, i.lst, ?_, i.le, i.hi, i.pos, i.few, i.gf, i.gl, fun h => by omega, fun h1 => i.next (by simpa using h1), fun h1 => i.last (by simpa using h1)⟩
   have := i.lo
   rw [sf]; omega
structure Pg where
 lv : Nat → Int
 n : Nat
 cs : List Int
 base : Int
structure Pg.Ok (p : Pg) : Prop where
 nb : p.n ≤ 2097152
 len : p.cs.length = p.n
 far : ∀ i, p.lv i ≠ -5
abbrev Pg.rs (p : Pg) : List (List Int) := runsOf p.lv p.n
abbrev Pg.R (p : Pg) : Nat := p.rs.length
theorem Pg.Ok.run {p : Pg} (h : p.Ok) {k : Nat} (hk : k < p.R) : Run p.lv p.rs 0 p.n k := runs_all (runsOf_good p.lv h.far p.n).1 (runsOf_ne p.lv p.n) k hk
theorem Pg.Ok.rise {p : Pg} (h : p.Ok) {i : Nat} : ∀ {j : Nat}, i < j → j < p.R → ls p.rs i < fs p.rs j
 | 0, h1, _ => by omega
 | j + 1, h1, h2 => by
  have hj := h.run (k := j) (by omega)
  have hn := (hj.next h2).1
  by_cases e : i = j
  ·rw [e]; exact hn
  ·have := h.rise (i := i) (j := j) (by omega) (by omega)
   have := hj.le
   omega
theorem Pg.Ok.ge {p : Pg} (h : p.Ok) : ∀ {k : Nat}, k < p.R → k ≤ fs p.rs k
 | 0, _ => by omega
 | k + 1, hk => by
  have := h.ge (k := k) (by omega)
  have := (h.run (k := k) (by omega)).le
  have := h.rise (i := k) (j := k + 1) (by omega) hk
  omega
theorem Pg.Ok.few {p : Pg} (h : p.Ok) : p.R ≤ p.n := by
 by_cases e : p.R = 0
 ·omega
 ·have := h.ge (k := p.R - 1) (by omega)
  have := (h.run (k := p.R - 1) (by omega)).le
  have := (h.run (k := p.R - 1) (by omega)).hi
  omega
abbrev Pg.mt (p : Pg) (i : Nat) : Int := YtenbhmjcoljddaaGreatDoor.Ex.mt p.cs p.cs.length i
theorem Pg.match_F {p : Pg} (h : p.Ok) : isolate_Match_F p.cs = some (tab p.n p.mt) := by
 have := h.nb
 have hl := h.len
 rw [YtenbhmjcoljddaaGreatDoor.Ex.match_F p.cs (by omega), hl]
 unfold Pg.mt
 rw [hl]
def Pg.fr (p : Pg) : Nat → Int → Int
 | 0, _ => -1
 | m + 1, x => if (fs p.rs m : Int) = x then (m : Int) else p.fr m x
theorem Pg.fr_succ (p : Pg) (m : Nat) (x : Int) : p.fr (m + 1) x = if (fs p.rs m : Int) = x then (m : Int) else p.fr m x := rfl
theorem Pg.fr_spec (p : Pg) (x : Int) : ∀ m, p.fr m x = -1 ∨ ∃ j : Nat, p.fr m x = (j : Int) ∧ j < m ∧ (fs p.rs j : Int) = x
 | 0 => .inl rfl
 | m + 1 => by
  rw [p.fr_succ]
  split
  ·rename_i h; exact .inr ⟨m, rfl, by omega, h⟩
  ·exact (p.fr_spec x m).imp id (fun ⟨j, h1, h2, h3⟩ => ⟨j, h1, by omega, h3⟩)
abbrev Pg.iso (p : Pg) (k : Nat) : Bool := YtenbhmjcoljddaaGreatDoor.Ex.iso (p.cs.getD (ls p.rs k) 0)
def Pg.nx (p : Pg) (k : Nat) : Int := if p.iso k = true then (if p.mt (ls p.rs k) ≠ -1 then p.fr p.R (p.mt (ls p.rs k)) else -1) else -1
theorem Pg.Ok.nx {p : Pg} (h : p.Ok) {k : Nat} (hk : k < p.R) : p.nx k = -1 ∨ ∃ j : Nat, p.nx k = (j : Int) ∧ k < j ∧ j < p.R := by
 unfold Pg.nx
 split
 ·rename_i hi
  split
  ·rcases p.fr_spec (p.mt (ls p.rs k)) p.R with h1 | ⟨j, h1, h2, h3⟩
   ·exact .inl h1
   ·refine .inr ⟨j, h1, ?_, h2⟩
    rcases mt_fwd p.cs hi p.cs.length with h4 | ⟨q, h4, h5, _⟩
    ·have : (fs p.rs j : Int) = -1 := h3.trans h4
     omega
    ·have h6 : (fs p.rs j : Int) = (q : Int) := h3.trans h4
     by_cases e : k < j
     ·exact e
     ·have a1 := (h.run hk).le
      by_cases e2 : j = k
      ·rw [e2] at h6; omega
      ·have := h.rise (i := j) (j := k) (by omega) hk
       have := (h.run h2).le
       omega
  ·exact .inl rfl
 ·exact .inl rfl
theorem begins_F {p : Pg} (h : p.Ok) : loopW (fun s => (seqs_follow_L3 s.1 s.2.1 s.2.2.1 s.2.2.2.1 s.2.2.2.2.1 s.2.2.2.2.2).run) (p.rs, p.cs, List.replicate p.n (-1), p.rs, (p.R : Int), 0) = some (p.rs, p.cs, tab p.n fun x => p.fr p.R x) := by
 have hb := h.nb
 have hR := h.few
 have h0 : List.replicate p.n (-1 : Int) = tab p.n (fun x => p.fr 0 (x : Nat)) := tab_rep _ _
 rw [h0]
 refine count (L := fun s : List (List Int) × List Int × List Int × List (List Int) × Int × Int => seqs_follow_L3 s.1 s.2.1 s.2.2.1 s.2.2.2.1 s.2.2.2.2.1 s.2.2.2.2.2) p.R
  (fun k => (p.rs, p.cs, tab p.n (fun x => p.fr k (x : Nat)), p.rs, (p.R : Int), ((k : Nat) : Int))) rfl (fun k hk => ?_) ?_
 ·dsimp only
  unfold seqs_follow_L3
  have r := h.run hk
  have hf := r.fst
  have := r.le
  have := r.hi
  refine Post.brT (decide_eq_true (by omega)) (Post.idx [] k rfl hk (Post.idx 0 0 rfl r.pos ?_))
  rw [hf]
  refine ptab (fs p.rs k) rfl (by omega) (Post.pure ?_)
  rw [toNat_nat, tab_set, wrap_succ (by omega)]
  congr 4
  refine tab_congr fun i hi => ?_
  rw [p.fr_succ]
  by_cases e : i = fs p.rs k
  ·subst e; rw [if_pos rfl, if_pos rfl]
  ·rw [if_neg e, if_neg (by omega)]
 ·dsimp only
  unfold seqs_follow_L3
  exact Post.brF (decide_eq_false (by omega)) (Post.pure rfl)
theorem lastAt {p : Pg} (h : p.Ok) {k : Nat} (hk : k < p.R) : idx (p.rs.getD k []) (IntKind.i64.wrap (((p.rs.getD k []).length : Int) - 1)) = some (ls p.rs k : Int) := by
 have r := h.run hk
 have := r.pos
 have := r.few
 have := h.nb
 rw [← r.lst]
 exact idx_getD 0 (by rw [wrap64 (by omega) (by omega)]; omega) (by omega)
theorem follow_F {p : Pg} (h : p.Ok) : seqs_follow_F p.rs p.cs = some (tab p.R p.nx) := by
 have hb := h.nb
 have hR := h.few
 have hl := h.len
 unfold seqs_follow_F seqs_follow_T
 rw [hl]
 refine Post.run (Post.bnd (repeat_F (by omega)) (Post.bnd (begins_F h) (Post.bnd (Pg.match_F h) (Post.bnd (mk_eq (k := p.R) rfl (by omega)) (Post.bnd (count (L := fun s : List Int × List Int × List Int × List Int × List (List Int) × Int × Int => seqs_follow_L10 s.1 s.2.1 s.2.2.1 s.2.2.2.1 s.2.2.2.2.1 s.2.2.2.2.2.1 s.2.2.2.2.2.2) p.R
  (fun k => (p.cs, tab p.n (fun x => p.fr p.R (x : Nat)), tab p.n p.mt, tab p.R (part p.nx (fun _ => 0) k), p.rs, (p.R : Int), ((k : Nat) : Int))) (r := tab p.R p.nx) ?_ (fun k hk => ?_) ?_) (Post.pure rfl))))))
 ·rw [tab_rep]; rfl
 ·dsimp only
  unfold seqs_follow_L10
  have r := h.run hk
  have hi := r.hi
  rw [toNat_nat, wrap_succ (k := k) (by omega)]
  have fin : ∀ v, v = p.nx k → (tab p.R (part p.nx (fun _ => 0) k)).set k v = tab p.R (part p.nx (fun _ => 0) (k + 1)) := fun v hv => part_set p.R hv.symm
  refine Post.brT (decide_eq_true (by omega)) (Post.idx [] k rfl hk (ptab k rfl hk (Post.bnd (lastAt h hk) (Post.idx 0 (ls p.rs k) rfl (by omega) (Post.bnd (isolate_F _) (Post.br (fun c => ptab (ls p.rs k) rfl hi (Post.br (fun c2 => ptab (ls p.rs k) rfl hi ?_) (fun c2 => Post.pure ?_))) (fun c => Post.pure ?_)))))))
  ·have c2 : p.mt (ls p.rs k) ≠ -1 := by simpa using c2
   have hc : p.iso k = true := c
   rcases mt_fwd p.cs hc p.cs.length with h4 | ⟨q, h4, _, h6⟩
   ·exact absurd h4 c2
   ·rw [show p.mt (ls p.rs k) = (q : Int) from h4]
    refine ptab q rfl (by omega) (Post.bnd (b := -1) (idx_set_at (by omega) (by rw [tab_len]; omega)) (Post.pure ?_))
    rw [List.set_set, fin _ (by unfold Pg.nx; rw [if_pos hc, if_pos c2, show p.mt (ls p.rs k) = (q : Int) from h4])]
  ·have c2 : p.mt (ls p.rs k) = -1 := by simpa using c2
   have hc : p.iso k = true := c
   rw [fin _ (by unfold Pg.nx; rw [if_pos hc, if_neg (by simpa using c2)])]
  ·rw [fin _ (by unfold Pg.nx; rw [if_neg (by rw [show p.iso k = false from c]; simp)])]
 ·dsimp only
  unfold seqs_follow_L10
  refine Post.brF (decide_eq_false (by omega)) (Post.pure ?_)
  rw [part_end]
def Pg.T (p : Pg) : Nat → Nat → List Nat
 | 0, _ => []
 | d + 1, k => if p.nx k = -1 then [] else (p.nx k).toNat :: p.T d (p.nx k).toNat
theorem Pg.T_end {p : Pg} {d k : Nat} (h : p.nx k = -1) : p.T d k = [] := by
 cases d with
 | zero => rfl
 | succ d => exact if_pos h
theorem Pg.T_more {p : Pg} {d k j : Nat} (h : p.nx k = (j : Int)) : p.T (d + 1) k = j :: p.T d j := by
 show (if p.nx k = -1 then [] else (p.nx k).toNat :: p.T d (p.nx k).toNat) = _
 rw [if_neg (by omega), h]
 rfl
def mark (J : List Bool) (l : List Nat) : List Bool := l.foldl (fun J j => J.set j true) J
theorem mark_len (l : List Nat) : ∀ J : List Bool, (mark J l).length = J.length := by
 induction l with
 | nil => intro J; rfl
 | cons j l ih => intro J; show (mark (J.set j true) l).length = _; rw [ih, List.length_set]
def Pg.cat (p : Pg) (l : List Nat) : List Int := (l.map fun k => p.rs.getD k []).flatten
theorem Pg.cat_cons (p : Pg) (k : Nat) (l : List Nat) : p.cat (k :: l) = p.rs.getD k [] ++ p.cat l := rfl
theorem Pg.Ok.T {p : Pg} (h : p.Ok) : ∀ (d k : Nat), k < p.R → (p.T d k).length ≤ d ∧ ∀ j ∈ p.T d k, k < j ∧ j < p.R
 | 0, _, _ => ⟨Nat.le_refl _, fun j hj => by cases hj⟩
 | d + 1, k, hk => by
  rcases h.nx hk with h1 | ⟨j, h1, h2, h3⟩
  ·rw [Pg.T_end h1]; exact ⟨by simp, fun j hj => by cases hj⟩
  ·rw [Pg.T_more h1]
   obtain ⟨g1, g2⟩ := h.T d j h3
   refine ⟨by simp only [List.length_cons]; omega, fun i hi => ?_⟩
   rcases List.mem_cons.1 hi with rfl | hi
   ·exact ⟨h2, h3⟩
   ·have := g2 i hi; omega
theorem Pg.Ok.cat {p : Pg} (h : p.Ok) : ∀ l : List Nat, (∀ j ∈ l, j < p.R) → (p.cat l).length ≤ l.length * p.n
 | [], _ => by simp [Pg.cat]
 | k :: l, hl => by
  have := h.cat l (fun j hj => hl j (List.mem_cons_of_mem _ hj))
  have := (h.run (hl k (by simp))).few
  rw [p.cat_cons, List.length_append, List.length_cons, Nat.succ_mul]
  omega
theorem Pg.Ok.ends {p : Pg} (h : p.Ok) : ∀ (l : List Nat) (k : Nat), (∀ j ∈ k :: l, j < p.R) →
  0 < (p.cat (k :: l)).length ∧ (p.cat (k :: l)).getD 0 0 = (fs p.rs k : Int) ∧ (p.cat (k :: l)).getD ((p.cat (k :: l)).length - 1) 0 = (ls p.rs (l.getLastD k) : Int)
 | [], k, hl => by
  have r := h.run (hl k (by simp))
  rw [p.cat_cons, show p.cat [] = [] from rfl, List.append_nil]
  exact ⟨r.pos, r.fst, r.lst⟩
 | j :: l, k, hl => by
  have r := h.run (hl k (by simp))
  have hp := r.pos
  obtain ⟨i1, i2, i3⟩ := h.ends l j (fun x hx => hl x (List.mem_cons_of_mem _ hx))
  rw [p.cat_cons]
  refine ⟨by rw [List.length_append]; omega, ?_, ?_⟩
  ·rw [getD_left hp]
   exact r.fst
  ·rw [List.length_append, show (p.rs.getD k []).length + (p.cat (j :: l)).length - 1 = (p.rs.getD k []).length + ((p.cat (j :: l)).length - 1) by omega,
    show (p.rs.getD k [] ++ p.cat (j :: l)).getD ((p.rs.getD k []).length + ((p.cat (j :: l)).length - 1)) 0 = (p.cat (j :: l)).getD ((p.cat (j :: l)).length - 1) 0 by
     simp only [List.getD]
     rw [List.getElem?_append_right (by omega), Nat.add_sub_cancel_left], i3, List.getLastD_cons]
def Pg.cl (x : Int) : Int := if x > 0 then (if x.tmod 2 = 1 then 1 else 0) else 0
def Pg.lvl (p : Pg) (k : Nat) : Int := p.lv (fs p.rs k)
def Pg.bef (p : Pg) (k : Nat) : Int := if k = 0 then p.base else p.lv (ls p.rs (k - 1))
def Pg.beh (p : Pg) (k : Nat) : Int := if k + 1 = p.R then p.base else p.lv (fs p.rs (k + 1))
def Pg.aft (p : Pg) (k : Nat) : Int := if p.iso k = true then p.base else p.beh k
def Pg.C (p : Pg) (k : Nat) : List Nat := p.T p.R k
def Pg.sq (p : Pg) (k : Nat) : List Int × Int × Int × Int :=
 (p.cat (k :: p.C k), p.lvl k, Pg.cl (if p.bef k > p.lvl k then p.bef k else p.lvl k), Pg.cl (if p.aft ((p.C k).getLastD k) > p.lvl k then p.aft ((p.C k).getLastD k) else p.lvl k))
def Pg.Sp (p : Pg) : Nat → List Bool × List (List Int × Int × Int × Int)
 | 0 => (List.replicate p.R false, [])
 | i + 1 => if (p.Sp i).1.getD i false = true then p.Sp i else (mark (p.Sp i).1 (p.C i), (p.Sp i).2 ++ [p.sq i])
theorem Pg.Sp_succ (p : Pg) (i : Nat) : p.Sp (i + 1) = if (p.Sp i).1.getD i false = true then p.Sp i else (mark (p.Sp i).1 (p.C i), (p.Sp i).2 ++ [p.sq i]) := rfl
theorem Pg.Sp_len (p : Pg) : ∀ i, (p.Sp i).1.length = p.R ∧ (p.Sp i).2.length ≤ i
 | 0 => ⟨List.length_replicate .., Nat.le_refl _⟩
 | i + 1 => by
  have ih := p.Sp_len i
  rw [p.Sp_succ]
  split
  ·exact ⟨ih.1, by omega⟩
  ·exact ⟨by rw [mark_len]; exact ih.1, by rw [List.length_append, List.length_singleton]; omega⟩
abbrev Sq := List Int × Int × Int × Int
abbrev L8S := List Int × List Int × Int × List (List Int) × List Int × List Bool × List Sq × Int × List Int × Int × Int × Int
theorem chase {p : Pg} (h : p.Ok) {all : List Sq} {f a b base : Int} {L cs : List Int} : ∀ (d k : Nat) (J : List Bool) (P : List Int), p.R ≤ k + d → k < p.R → J.length = p.R → P.length + d * p.n ≤ 8796093022208 →
  loopW (fun s : L8S => (seqs_Of_L13 s.1 s.2.1 s.2.2.1 s.2.2.2.1 s.2.2.2.2.1 s.2.2.2.2.2.1 s.2.2.2.2.2.2.1 s.2.2.2.2.2.2.2.1 s.2.2.2.2.2.2.2.2.1 s.2.2.2.2.2.2.2.2.2.1 s.2.2.2.2.2.2.2.2.2.2.1 s.2.2.2.2.2.2.2.2.2.2.2).run) (L, cs, base, p.rs, tab p.R p.nx, J, all, f, P, (k : Int), a, b) =
   some (L, cs, base, p.rs, tab p.R p.nx, mark J (p.T d k), all, f, P ++ p.cat (p.T d k), (((p.T d k).getLastD k : Nat) : Int), a, b)
 | 0, k, J, P, h1, h2, _, _ => by omega
 | d + 1, k, J, P, h1, h2, h3, h4 => by
  rw [Nat.succ_mul] at h4
  rcases h.nx h2 with e | ⟨j, e, h5, h6⟩
  ·rw [Pg.T_end e]
   refine loopW_done (Post.run ?_)
   dsimp only
   unfold seqs_Of_L13
   refine ptab k rfl h2 (Post.brF (by rw [e]; rfl) (Post.pure ?_))
   rw [show p.cat [] = [] from rfl, List.append_nil]
   rfl
  ·rw [Pg.T_more e]
   have r := (h.run h6).few
   have ih := chase h (all := all) (f := f) (a := a) (b := b) (base := base) (L := L) (cs := cs) d j (J.set j true) (P ++ p.rs.getD j []) (by omega) h6 (by rw [List.length_set]; exact h3) (by rw [List.length_append]; omega)
   rw [List.append_assoc, ← p.cat_cons] at ih
   refine loopW_next (Post.run ?_) (ih.trans (congrArg some ?_))
   ·dsimp only
    unfold seqs_Of_L13
    refine ptab k rfl h2 ?_
    rw [e]
    refine Post.brT (by simp) (ptab k rfl h2 ?_)
    rw [e]
    exact Post.idx false j rfl (by omega) (Post.idx [] j rfl h6 (Post.bnd (app_eq (by omega)) (Post.pure rfl)))
   ·cases p.T d j <;> rfl
theorem dir_F (x : Int) : seqs_direction_F x = some (Pg.cl x) := by
 unfold seqs_direction_F seqs_direction_T Pg.cl
 refine Post.run (Post.br (fun c => ?_) (fun c => Post.pure ?_))
 ·rw [if_pos (of_decide_eq_true c)]
  refine Post.br (fun c => Post.pure ?_) (fun c => Post.pure ?_)
  ·rw [if_pos (by simpa using c)]
  ·rw [if_neg (by simpa using c)]
 ·rw [if_neg (of_decide_eq_false c)]
theorem before_F {p : Pg} (h : p.Ok) {k : Nat} (hk : k < p.R) : seqs_before_F p.rs (k : Int) (tab p.n p.lv) p.base = some (p.bef k) := by
 have hb := h.nb
 have hR := h.few
 unfold seqs_before_F seqs_before_T Pg.bef
 refine Post.run (Post.br (fun c => Post.pure ?_) (fun c => ?_))
 ·rw [if_pos (Int.ofNat.inj (by simpa using c))]
 ·have c : ¬ k = 0 := fun e => by subst e; simp at c
  rw [if_neg c]
  refine Post.idx [] (k - 1) (by rw [wrap64 (by omega) (by omega)]; omega) (show k - 1 < p.R by omega) (Post.bnd (lastAt h (by omega)) (ptab (ls p.rs (k - 1)) rfl (h.run (by omega)).hi (Post.pure rfl)))
theorem after_F {p : Pg} (h : p.Ok) {k : Nat} (hk : k < p.R) : seqs_after_F p.rs (k : Int) (tab p.n p.lv) p.cs p.base = some (p.aft k) := by
 have hb := h.nb
 have hR := h.few
 have hl := h.len
 have r := h.run hk
 unfold seqs_after_F seqs_after_T Pg.aft Pg.beh
 rw [wrap_succ (by omega)]
 refine Post.run (Post.idx [] k rfl hk (Post.br (fun c => Post.pure ?_) (fun c => Post.bnd (lastAt h hk) (Post.idx 0 (ls p.rs k) rfl (by have := r.hi; omega) (Post.bnd (isolate_F _) (Post.br (fun c2 => Post.pure ?_) (fun c2 => ?_)))))))
 ·have c : k + 1 = p.R := Int.ofNat.inj (by simpa using c)
  rw [if_pos c]
  split <;> rfl
 ·rw [if_pos c2]
 ·have c : ¬ k + 1 = p.R := fun e => by rw [e] at c; simp at c
  have r1 := h.run (k := k + 1) (by omega)
  rw [if_neg (by rw [show p.iso k = false from c2]; simp), if_neg c]
  refine Post.idx [] (k + 1) rfl (show k + 1 < p.R by omega) (Post.idx 0 0 rfl r1.pos ?_)
  rw [r1.fst]
  exact ptab (fs p.rs (k + 1)) rfl (by have := r1.le; have := r1.hi; omega) (Post.pure rfl)
theorem big {a n : Nat} (ha : a ≤ 2097153) (hn : n ≤ 2097152) : a * n ≤ 4398048608256 := Nat.le_trans (Nat.mul_le_mul ha hn) (by decide)
theorem seqs_F {p : Pg} (h : p.Ok) : seqs_Of_F (tab p.n p.lv) p.cs p.base = some (p.Sp p.R).2 := by
 have hb := h.nb
 have hR := h.few
 have hl := h.len
 unfold seqs_Of_F seqs_Of_T
 refine Post.run (Post.brF (by rw [tab_len, hl]; simp) (Post.bnd (runs_tab (by omega)) (Post.bnd (follow_F h) (Post.bnd (mk_eq (k := p.R) rfl (by omega)) (Post.bnd (count (L := fun s : List Int × List Int × Int × List (List Int) × List Int × List Bool × (List Sq) × Int × Int => seqs_Of_L8 s.1 s.2.1 s.2.2.1 s.2.2.2.1 s.2.2.2.2.1 s.2.2.2.2.2.1 s.2.2.2.2.2.2.1 s.2.2.2.2.2.2.2.1 s.2.2.2.2.2.2.2.2) p.R
  (fun k => (tab p.n p.lv, p.cs, p.base, p.rs, tab p.R p.nx, (p.Sp k).1, (p.Sp k).2, (p.R : Int), ((k : Nat) : Int))) (r := (p.Sp p.R).2) rfl (fun k hk => ?_) ?_) (Post.pure rfl))))))
 ·dsimp only
  unfold seqs_Of_L8
  obtain ⟨s1, s2⟩ := p.Sp_len k
  have r := h.run hk
  obtain ⟨t1, t2⟩ := h.T p.R k hk
  have hm : ∀ j ∈ k :: p.C k, j < p.R := fun j hj => by
   rcases List.mem_cons.1 hj with rfl | hj
   ·exact hk
   ·exact (t2 j hj).2
  obtain ⟨e1, e2, e3⟩ := h.ends (p.C k) k hm
  have hlast : (p.C k).getLastD k < p.R := by
   cases hc : p.C k with
   | nil => exact hk
   | cons j l =>
    rw [List.getLastD_cons]
    have : (l.getLastD j) ∈ j :: l := by
     rw [← List.getLastD_cons (a := j), ← List.getLast_eq_getLastD (by simp)]
     exact List.getLast_mem _
    exact hm _ (by rw [hc]; exact List.mem_cons_of_mem _ this)
  have hbig := big (a := p.R) (n := p.n) (by omega) hb
  rw [wrap_succ (k := k) (by omega), p.Sp_succ]
  refine Post.brT (decide_eq_true (by omega)) (Post.idx false k rfl (by omega) (Post.br (fun c => Post.pure ?_) (fun c => ?_)))
  ·rw [if_pos c]
  ·rw [if_neg (by rw [c]; simp)]
   have hclone : slices_Clone___int_int__F (p.rs.getD k []) = some (p.rs.getD k []) := by
    unfold slices_Clone___int_int__F slices_Clone___int_int__T
    exact Post.run (Post.bnd (app_eq (by have := r.few; simp only [List.length_nil]; omega)) (Post.pure rfl))
   have hch := chase h (all := (p.Sp k).2) (f := (k : Int)) (a := (p.R : Int)) (b := (k : Int)) (base := p.base) (L := tab p.n p.lv) (cs := p.cs) p.R k (p.Sp k).1 (p.rs.getD k []) (by omega) hk s1 (by have := r.few; omega)
   refine Post.idx [] k rfl hk (Post.bnd hclone (Post.bnd hch ?_))
   dsimp only
   rw [← p.cat_cons]
   refine Post.idx 0 0 rfl e1 ?_
   rw [show (p.cat (k :: p.T p.R k)).getD 0 0 = (fs p.rs k : Int) from e2]
   refine ptab (fs p.rs k) rfl (by have := r.le; have := r.hi; omega) (Post.bnd (before_F h hk) (Post.bnd (dir_F _) (Post.bnd (after_F h hlast) (Post.bnd (dir_F _) (Post.bnd (app_eq (by simp only [List.length_singleton]; omega)) (Post.pure ?_))))))
   rw [wrap_succ (k := k) (by omega)]
   rfl
 ·dsimp only
  unfold seqs_Of_L8
  exact Post.brF (decide_eq_false (by omega)) (Post.pure rfl)
theorem Pg.Sp_mem (p : Pg) : ∀ i, ∀ x ∈ (p.Sp i).2, ∃ k, k < i ∧ x = p.sq k
 | 0, x, hx => by cases hx
 | i + 1, x, hx => by
  rw [p.Sp_succ] at hx
  split at hx
  ·obtain ⟨k, h1, h2⟩ := p.Sp_mem i x hx
   exact ⟨k, by omega, h2⟩
  ·rcases List.mem_append.1 hx with hx | hx
   ·obtain ⟨k, h1, h2⟩ := p.Sp_mem i x hx
    exact ⟨k, by omega, h2⟩
   ·exact ⟨i, by omega, List.mem_singleton.1 hx⟩
end Go.Proofs.YtenbhmjcoljddaaGreatDoor.Ex
