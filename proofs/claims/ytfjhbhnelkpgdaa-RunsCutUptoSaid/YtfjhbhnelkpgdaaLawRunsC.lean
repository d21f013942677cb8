/-
  The laws of runs return true: runs are all places that are not taken out, in order.
-/
import Derived.Test.YtfjhbhnelkpgdaaLawRunsB
namespace Go.Proofs.Ytfjhbhnelkpgdaa

/-- the places that are not taken out, from a place up to another one, in order -/
def Chain (lv : Nat → Int) : Nat → List Int → Nat → Prop
  | a, [], b => a ≤ b ∧ ∀ x, a ≤ x → x < b → lv x = -1
  | a, p :: r, b => ∃ q : Nat, p = (q : Int) ∧ a ≤ q ∧ (∀ x, a ≤ x → x < q → lv x = -1) ∧ lv q ≠ -1 ∧ Chain lv (q + 1) r b
theorem Chain.le {lv : Nat → Int} : ∀ {l : List Int} {a b : Nat}, Chain lv a l b → a ≤ b
  | [], a, b, h => h.1
  | p :: r, a, b, h => by
    obtain ⟨q, _, h1, _, _, h2⟩ := h
    have := h2.le
    omega
theorem Chain.snoc {lv : Nat → Int} : ∀ {l : List Int} {a b : Nat}, Chain lv a l b → lv b ≠ -1 → Chain lv a (l ++ [(b : Int)]) (b + 1)
  | [], a, b, h, hb => ⟨b, rfl, h.1, h.2, hb, by omega, fun x h1 h2 => by omega⟩
  | p :: r, a, b, h, hb => by
    obtain ⟨q, h0, h1, h2, h3, h4⟩ := h
    exact ⟨q, h0, h1, h2, h3, h4.snoc hb⟩
theorem Chain.skip {lv : Nat → Int} : ∀ {l : List Int} {a b : Nat}, Chain lv a l b → lv b = -1 → Chain lv a l (b + 1)
  | [], a, b, h, hb => ⟨by have := h.1; omega, fun x h1 h2 => by
      by_cases e : x = b
      · subst e; exact hb
      · exact h.2 x h1 (by omega)⟩
  | p :: r, a, b, h, hb => by
    obtain ⟨q, h0, h1, h2, h3, h4⟩ := h
    exact ⟨q, h0, h1, h2, h3, h4.skip hb⟩

/-- each of one level, the next one of another -/
def AltRuns (lv : Nat → Int) : Int → List (List Int) → Prop
  | _, [] => True
  | last, r :: rs => ∃ p t, r = p :: t ∧ lv p.toNat ≠ last ∧ (∀ x ∈ r, lv x.toNat = lv p.toNat) ∧ AltRuns lv (lv p.toNat) rs
theorem alt_more {lv : Nat → Int} {p i : Int} {r : List Int} (e : lv p.toNat = lv i.toNat) : ∀ {a : List (List Int)} {last : Int}, AltRuns lv last (a ++ [p :: r]) → AltRuns lv last (a ++ [(p :: r) ++ [i]])
  | [], last, h => by
    obtain ⟨p', t, h0, h1, h2, _⟩ := h
    cases h0
    refine ⟨p, r ++ [i], rfl, h1, fun x hx => ?_, trivial⟩
    rcases List.mem_append.1 hx with hx | hx
    · exact h2 x hx
    · simp only [List.mem_singleton] at hx
      subst hx; exact e.symm
  | b :: a, last, h => by
    obtain ⟨p', t, h0, h1, h2, h3⟩ := h
    exact ⟨p', t, h0, h1, h2, alt_more e h3⟩
theorem alt_new {lv : Nat → Int} {p i : Int} {r : List Int} (e : lv p.toNat ≠ lv i.toNat) : ∀ {a : List (List Int)} {last : Int}, AltRuns lv last (a ++ [p :: r]) → AltRuns lv last ((a ++ [p :: r]) ++ [[i]])
  | [], last, h => by
    obtain ⟨p', t, h0, h1, h2, _⟩ := h
    cases h0
    refine ⟨p, r, rfl, h1, h2, i, [], rfl, fun x => e x.symm, fun x hx => ?_, trivial⟩
    simp only [List.mem_singleton] at hx
    subst hx; rfl
  | b :: a, last, h => by
    obtain ⟨p', t, h0, h1, h2, h3⟩ := h
    exact ⟨p', t, h0, h1, h2, alt_new e h3⟩

theorem runs_good (lv : Nat → Int) (hr : ∀ i, lv i ≠ -5) : ∀ n, Chain lv 0 ((runsTo lv n).1.flatten ++ (runsTo lv n).2) n ∧ (∀ p r, (runsTo lv n).2 = p :: r → AltRuns lv (-5) ((runsTo lv n).1 ++ [p :: r]))
  | 0 => ⟨⟨by omega, fun x _ h => by omega⟩, fun p r h => by cases h⟩
  | n + 1 => by
    have ih := runs_good lv hr n
    have ha := runsAt lv n
    unfold runsTo
    generalize runsTo lv n = s at ih ha
    obtain ⟨a, run⟩ := s
    obtain ⟨h1, h2⟩ := ih
    dsimp only at h1 h2
    by_cases h : lv n = -1
    · rw [runStep_skip h]
      exact ⟨h1.skip h, h2⟩
    · have hc := h1.snoc h
      cases run with
      | nil =>
        rw [runStep_first h]
        rw [List.append_nil] at hc
        refine ⟨hc, fun p r e => ?_⟩
        cases e
        have e0 : a = [] := (ha.first rfl).1
        subst e0
        refine ⟨(n : Int), [], rfl, hr n, fun x hx => ?_, trivial⟩
        simp only [List.mem_singleton] at hx
        subst hx; rfl
      | cons p r =>
        by_cases e : lv p.toNat = lv n
        · rw [runStep_more h e]
          refine ⟨by rw [← List.append_assoc]; exact hc, fun p' r' e' => ?_⟩
          rw [← e']
          exact alt_more (i := (n : Int)) e (h2 p r rfl)
        · rw [runStep_new h e]
          refine ⟨?_, fun p' r' e' => ?_⟩
          · simpa using hc
          · cases e'
            exact alt_new (i := (n : Int)) e (h2 p r rfl)
theorem runsOf_good (lv : Nat → Int) (hr : ∀ i, lv i ≠ -5) (n : Nat) : Chain lv 0 (runsOf lv n).flatten n ∧ AltRuns lv (-5) (runsOf lv n) := by
  have h := runs_good lv hr n
  have ha := runsAt lv n
  unfold runsOf
  generalize runsTo lv n = s at h ha
  obtain ⟨a, run⟩ := s
  cases run with
  | nil =>
    have e0 : a = [] := (ha.first rfl).1
    subst e0
    exact ⟨by simpa using h.1, trivial⟩
  | cons p r => exact ⟨by simpa using h.1, h.2 p r rfl⟩

theorem skip14 {lv : Nat → Int} {n : Nat} (hn : n ≤ 4194304) (last p : Int) (R : List (List Int)) (len j : Int) (r : List Int) (rl m : Int) {a q : Nat} (haq : a ≤ q) (hq : q ≤ n) (h : ∀ x, a ≤ x → x < q → lv x = -1) (he : q = n ∨ lv q ≠ -1) :
    loopW (fun s : List Int × Int × Int × Int × List (List Int) × Int × Int × List Int × Int × Int => (law12_RunsCut_L14 s.1 s.2.1 s.2.2.1 s.2.2.2.1 s.2.2.2.2.1 s.2.2.2.2.2.1 s.2.2.2.2.2.2.1 s.2.2.2.2.2.2.2.1 s.2.2.2.2.2.2.2.2.1 s.2.2.2.2.2.2.2.2.2).run)
      (tab n lv, (a : Int), last, p, R, len, j, r, rl, m) = some (tab n lv, (q : Int), last, p, R, len, j, r, rl, m) := by
  have hl := loopW_count (f := fun s : List Int × Int × Int × Int × List (List Int) × Int × Int × List Int × Int × Int => (law12_RunsCut_L14 s.1 s.2.1 s.2.2.1 s.2.2.2.1 s.2.2.2.2.1 s.2.2.2.2.2.1 s.2.2.2.2.2.2.1 s.2.2.2.2.2.2.2.1 s.2.2.2.2.2.2.2.2.1 s.2.2.2.2.2.2.2.2.2).run)
    (q - a) (fun k => (tab n lv, ((a + k : Nat) : Int), last, p, R, len, j, r, rl, m)) (r := (tab n lv, (q : Int), last, p, R, len, j, r, rl, m)) ?_ ?_
  · exact hl
  · intro k hk
    dsimp only
    unfold law12_RunsCut_L14
    rw [Tr.run_br, if_pos (by simp only [tab_len, decide_eq_true_eq]; omega), Tr.run_bnd_some (idx_tab (k := a + k) rfl (by omega)), Tr.run_br, if_pos (by simp [h (a + k) (by omega) (by omega)]), Tr.run_pure, wrap64 (by omega) (by omega)]
    rfl
  · dsimp only
    rw [show a + (q - a) = q by omega]
    unfold law12_RunsCut_L14
    rw [Tr.run_br]
    by_cases e : q = n
    · rw [if_neg (by simp only [tab_len, decide_eq_true_eq]; omega), Tr.run_pure]
    · have hq2 : lv q ≠ -1 := by
        rcases he with he | he
        · exact absurd he e
        · exact he
      rw [if_pos (by simp only [tab_len, decide_eq_true_eq]; omega), Tr.run_bnd_some (idx_tab rfl (by omega)), Tr.run_br, if_neg (by simpa using hq2), Tr.run_pure]

theorem skip21 {lv : Nat → Int} {n : Nat} (hn : n ≤ 4194304) {a : Nat} (haq : a ≤ n) (h : ∀ x, a ≤ x → x < n → lv x = -1) :
    loopW (fun s : List Int × Int => (law12_RunsCut_L21 s.1 s.2).run) (tab n lv, (a : Int)) = some (tab n lv, (n : Int)) := by
  have hl := loopW_count (f := fun s : List Int × Int => (law12_RunsCut_L21 s.1 s.2).run) (n - a) (fun k => (tab n lv, ((a + k : Nat) : Int))) (r := (tab n lv, (n : Int))) ?_ ?_
  · exact hl
  · intro k hk
    dsimp only
    unfold law12_RunsCut_L21
    rw [Tr.run_br, if_pos (by simp only [tab_len, decide_eq_true_eq]; omega), Tr.run_bnd_some (idx_tab (k := a + k) rfl (by omega)), Tr.run_br, if_pos (by simp [h (a + k) (by omega) (by omega)]), Tr.run_pure, wrap64 (by omega) (by omega)]
    rfl
  · dsimp only
    rw [show a + (n - a) = n by omega]
    unfold law12_RunsCut_L21
    rw [Tr.run_br, if_neg (by simp only [tab_len, decide_eq_true_eq]; omega), Tr.run_pure]

theorem loop12 {lv : Nat → Int} {n : Nat} (hn : n ≤ 4194304) (last : Int) (R : List (List Int)) (len j : Int) (r rest : List Int) (hrl : r.length ≤ 4194304) (hs : ∀ x ∈ r, lv x.toNat = last) {a : Nat} (h : Chain lv a (r ++ rest) n) :
    ∃ b : Nat, loopW (fun s : List Int × Int × Int × List (List Int) × Int × Int × List Int × Int × Int => (law12_RunsCut_L12 s.1 s.2.1 s.2.2.1 s.2.2.2.1 s.2.2.2.2.1 s.2.2.2.2.2.1 s.2.2.2.2.2.2.1 s.2.2.2.2.2.2.2.1 s.2.2.2.2.2.2.2.2).run)
      (tab n lv, (a : Int), last, R, len, j, r, (r.length : Int), 0) = some (.inl (tab n lv, (b : Int), last, R, len, j)) ∧ Chain lv b rest n := by
  refine Exists.elim (loopW_rule (f := fun s : List Int × Int × Int × List (List Int) × Int × Int × List Int × Int × Int => (law12_RunsCut_L12 s.1 s.2.1 s.2.2.1 s.2.2.2.1 s.2.2.2.2.1 s.2.2.2.2.2.1 s.2.2.2.2.2.2.1 s.2.2.2.2.2.2.2.1 s.2.2.2.2.2.2.2.2).run)
    (fun s => ∃ m b : Nat, m ≤ r.length ∧ s = (tab n lv, (b : Int), last, R, len, j, r, (r.length : Int), (m : Int)) ∧ Chain lv b (r.drop m ++ rest) n)
    (fun s => r.length - s.2.2.2.2.2.2.2.2.toNat)
    (fun x => ∃ b : Nat, x = .inl (tab n lv, (b : Int), last, R, len, j) ∧ Chain lv b rest n) ?_ (tab n lv, (a : Int), last, R, len, j, r, (r.length : Int), 0) ⟨0, a, by omega, rfl, h⟩) (fun x hx => ?_)
  · rintro s ⟨m, b, hm, rfl, hc⟩
    dsimp only
    unfold law12_RunsCut_L12
    rw [Tr.run_br]
    by_cases e : m = r.length
    · right
      subst e
      rw [if_neg (by simp), Tr.run_pure]
      exact ⟨_, rfl, b, rfl, by simpa using hc⟩
    · left
      have hm' : m < r.length := by omega
      rw [List.drop_eq_getElem_cons hm', List.cons_append] at hc
      obtain ⟨q, h0, h1, h2, h3, h4⟩ := hc
      have hle := h4.le
      have hlev := hs r[m] (List.getElem_mem hm')
      rw [if_pos (by simp; omega), Tr.run_bnd_some (idx_get rfl hm')]
      rw [h0] at hlev ⊢
      rw [Tr.run_bnd_some (skip14 hn last (q : Int) R len j r (r.length : Int) (m : Int) h1 (by omega) h2 (.inr h3)), Tr.run_br]
      dsimp only
      rw [if_neg (by simp), Tr.run_bnd_some (idx_tab (k := q) rfl (by omega)), Tr.run_br, if_neg (by have e3 : lv q = last := hlev; simp [e3]), Tr.run_pure, wrap64 (n := (q : Int) + 1) (by omega) (by omega), wrap64 (n := (m : Int) + 1) (by omega) (by omega)]
      refine ⟨_, rfl, ⟨m + 1, q + 1, by omega, rfl, h4⟩, ?_⟩
      dsimp only
      omega
  · obtain ⟨hl, b, rfl, hb⟩ := hx
    exact ⟨b, hl, hb⟩

theorem runsCut_true (ns : List Int) (hn : ns.length ≤ 2097152) (h8 : ∀ n ∈ ns, 0 ≤ n ∧ n ≤ 255) : law12_RunsCut_F ns = some true := by
  unfold law12_RunsCut_F law12_RunsCut_T
  have hgood := runsOf_good (lev ns) (fun i => by have := lev_range ns i h8; omega) ns.length
  have hlen : (runsOf (lev ns) ns.length).length ≤ ns.length + 1 := by
    have f := (runsAt (lev ns) ns.length).few
    unfold runsOf
    cases (runsTo (lev ns) ns.length).2 <;> simp <;> omega
  have hrl : ∀ r ∈ runsOf (lev ns) ns.length, r.length ≤ 4194304 := by
    have f := (runsAt (lev ns) ns.length)
    have key : ∀ r : List Int, Chain (lev ns) 0 r ns.length → r.length ≤ ns.length := by
      have k2 : ∀ (r : List Int) (a : Nat), Chain (lev ns) a r ns.length → r.length + a ≤ ns.length := by
        intro r
        induction r with
        | nil => intro a h; simpa using h.1
        | cons p r ih =>
          intro a h
          obtain ⟨q, _, h1, _, _, h4⟩ := h
          have := ih _ h4
          simp only [List.length_cons]
          omega
      intro r h
      have := k2 r 0 h
      omega
    intro r hr
    have h1 := key _ hgood.1
    have h2 : r.length ≤ (runsOf (lev ns) ns.length).flatten.length := (List.sublist_flatten_of_mem hr).length_le
    omega
  rw [Tr.run_bnd_some awake12, Tr.run_br, if_neg (by simp), Tr.run_bnd_some (levels_F ns hn h8), Tr.run_bnd_some (runs_tab (by omega))]
  generalize runsOf (lev ns) ns.length = R at hgood hlen hrl
  refine Exists.elim (loopW_rule (f := fun s : List Int × Int × Int × List (List Int) × Int × Int => (law12_RunsCut_L6 s.1 s.2.1 s.2.2.1 s.2.2.2.1 s.2.2.2.2.1 s.2.2.2.2.2).run)
    (fun s => ∃ (j a : Nat) (last : Int), j ≤ R.length ∧ s = (tab ns.length (lev ns), (a : Int), last, R, (R.length : Int), (j : Int)) ∧ Chain (lev ns) a (R.drop j).flatten ns.length ∧ AltRuns (lev ns) last (R.drop j))
    (fun s => R.length - s.2.2.2.2.2.toNat)
    (fun x => ∃ a : Nat, x = .inl (tab ns.length (lev ns), (a : Int)) ∧ Chain (lev ns) a [] ns.length) ?_ (tab ns.length (lev ns), 0, -5, R, (R.length : Int), 0) ⟨0, 0, -5, by omega, rfl, hgood.1, hgood.2⟩) (fun x hx => ?_)
  · rintro s ⟨j, a, last, hj, rfl, hc, halt⟩
    dsimp only
    unfold law12_RunsCut_L6
    rw [Tr.run_br]
    by_cases e : j = R.length
    · right
      subst e
      rw [if_neg (by simp), Tr.run_pure]
      exact ⟨_, rfl, a, rfl, by simpa using hc⟩
    · left
      have hj' : j < R.length := by omega
      rw [List.drop_eq_getElem_cons hj'] at hc halt
      obtain ⟨p, t, hr0, h1, h2, h3⟩ := halt
      have hrl' := hrl R[j] (List.getElem_mem hj')
      rw [List.flatten_cons] at hc
      rw [if_pos (by simp; omega), Tr.run_bnd_some (idx_get rfl hj')]
      generalize R[j] = r at hc hr0 h2 hrl'
      subst hr0
      have hc' := hc
      rw [List.cons_append] at hc'
      obtain ⟨q, rfl, g1, g2, g3, g4⟩ := hc'
      have hle := g4.le
      have z0 : idx ((q : Int) :: t) 0 = some (q : Int) := idx_get (k := 0) rfl (by simp)
      have zl : idx (tab ns.length (lev ns)) (q : Int) = some (lev ns q) := idx_tab rfl (by omega)
      obtain ⟨b, hl, hb⟩ := loop12 (lv := lev ns) (n := ns.length) (by omega) (lev ns q) R (R.length : Int) (j : Int) ((q : Int) :: t) (R.drop (j + 1)).flatten hrl' h2 hc
      rw [Tr.run_br, if_neg (by simp only [List.length_cons, beq_iff_eq]; omega), Tr.run_bnd_some z0, Tr.run_bnd_some zl, Tr.run_br, if_neg (by have h1' : lev ns q ≠ last := h1; simpa using h1'), Tr.run_bnd_some z0, Tr.run_bnd_some zl, Tr.run_alt_inl hl, Tr.run_pure]
      dsimp only
      rw [wrap64 (by omega) (by omega)]
      refine ⟨_, rfl, ⟨j + 1, b, lev ns q, by omega, rfl, hb, h3⟩, ?_⟩
      dsimp only
      omega
  · obtain ⟨hl, a, rfl, ha⟩ := hx
    rw [Tr.run_alt_inl hl]
    dsimp only
    rw [Tr.run_bnd_some (skip21 (by omega) ha.1 ha.2), Tr.run_pure]
    simp [tab_len]

theorem runsCut_all (x : Tys.I [.sl (.int .u8)]) (h : WfAll [.sl (.int .u8)] x) (hb : bulkAll [.sl (.int .u8)] x ≤ 1048576) : law12_RunsCut_F x.1 = some true := by
  simp only [bulkAll, bulk] at hb
  exact runsCut_true _ (by omega) (fun n hn => wf_u8 (h.1.2 n hn))

end Go.Proofs.Ytfjhbhnelkpgdaa
