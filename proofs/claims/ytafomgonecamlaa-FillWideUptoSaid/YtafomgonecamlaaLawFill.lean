/-
  Where a line ends, as the document says; both functions say so.
-/
import Derived.Test.YtafomgonecamlaaLawMeas
namespace Go.Proofs.Ytafomgonecamlaa
set_option linter.all false

/-- the last place behind f and ahead of a where p holds; f, where there is none -/
def Last (p : Nat → Prop) (f a v : Nat) : Prop := (v = f ∧ ∀ j, f < j → j < a → ¬ p j) ∨ (f < v ∧ v < a ∧ p v ∧ ∀ j, v < j → j < a → ¬ p j)
theorem Last.start (p : Nat → Prop) (f : Nat) : Last p f (f + 1) f := .inl ⟨rfl, fun j h1 h2 => by omega⟩
theorem Last.yes {p : Nat → Prop} {f a v : Nat} (_h : Last p f a v) (hf : f < a) (hp : p a) : Last p f (a + 1) a := .inr ⟨hf, by omega, hp, fun j h1 h2 => by omega⟩
theorem Last.no {p : Nat → Prop} {f a v : Nat} (h : Last p f a v) (hp : ¬ p a) : Last p f (a + 1) v := by
  have key : ∀ {l}, (∀ j, l < j → j < a → ¬ p j) → ∀ j, l < j → j < a + 1 → ¬ p j := fun h j h1 h2 => by
    by_cases e : j = a
    · rw [e]; exact hp
    · exact h j h1 (by omega)
  rcases h with ⟨h1, h2⟩ | ⟨h1, h2, h3, h4⟩
  · exact .inl ⟨h1, key h2⟩
  · exact .inr ⟨h1, by omega, h3, key h4⟩

structure Tx where
  ws : List Int
  cs : List Int
  n : Nat
  ss : List Int
  w : Int
/-- what a text must be -/
structure Tx.Ok (t : Tx) : Prop where
  small : Small t.ws
  nw : t.n ≤ t.ws.length
  nb : t.n ≤ 4194304
  len : t.ss.length = t.n + 1
  range : ∀ j, 0 ≤ t.ss.getD j 0 ∧ t.ss.getD j 0 ≤ 2
abbrev Tx.s (t : Tx) (j : Nat) : Int := t.ss.getD j 0
abbrev Tx.W (t : Tx) (j : Nat) : Prop := who t.ws t.n (j : Int) = true
/-- a place behind f that fits -/
def Tx.F (t : Tx) (f j : Nat) : Prop := f < j ∧ j ≤ t.n ∧ sho t.ws t.cs t.n (f : Int) (j : Int) ≤ t.w
theorem sho_mono {ws cs : List Int} {n : Nat} (hs : Small ws) (hw : n ≤ ws.length) {f i j : Nat} (h1 : f ≤ i) (h2 : i ≤ j) (h3 : j ≤ n) : sho ws cs n (f : Int) (i : Int) ≤ sho ws cs n (f : Int) (j : Int) := by
  rw [sho_at h1 (by omega), sho_at (by omega) h3]
  have s1 := sol_le cs i
  have s2 := sol_le cs j
  have s3 := sol_mono cs h2
  have := pre_mono hs (i := max f (sol cs i).toNat) (j := max f (sol cs j).toNat) (by omega) (by omega)
  omega
theorem Tx.F.down {t : Tx} (ht : t.Ok) {f i j : Nat} (h : t.F f j) (h1 : f < i) (h2 : i ≤ j) : t.F f i :=
  ⟨h1, by have := h.2.1; omega, Int.le_trans (sho_mono ht.small ht.nw (by omega) h2 h.2.1) h.2.2⟩
theorem Tx.last {t : Tx} : t.W t.n := by simp [Tx.W, who]

/-- where a line ends that begins at f -/
def Tx.End (t : Tx) (f e : Nat) : Prop :=
  (t.F f e ∧ t.s e = 2 ∧ ∀ j, f < j → j < e → t.s j ≠ 2) ∨
  ((∀ j, t.F f j → t.s j ≠ 2) ∧ t.F f e ∧ t.s e = 1 ∧ ∀ j, e < j → t.F f j → t.s j ≠ 1) ∨
  ((∀ j, t.F f j → t.s j ≠ 2 ∧ t.s j ≠ 1) ∧ t.F f e ∧ t.W e ∧ ∀ j, e < j → t.F f j → ¬ t.W j) ∨
  ((∀ j, t.F f j → t.s j ≠ 2 ∧ t.s j ≠ 1 ∧ ¬ t.W j) ∧ f < e ∧ e ≤ t.n ∧ (t.W e ∨ t.s e = 2) ∧ ∀ j, f < j → j < e → ¬ t.W j ∧ t.s j ≠ 2)
theorem Tx.End.lt {t : Tx} {f e : Nat} (h : t.End f e) : f < e ∧ e ≤ t.n := by
  rcases h with ⟨h, _⟩ | ⟨_, h, _⟩ | ⟨_, h, _⟩ | ⟨_, h1, h2, _⟩
  · exact ⟨h.1, h.2.1⟩
  · exact ⟨h.1, h.2.1⟩
  · exact ⟨h.1, h.2.1⟩
  · exact ⟨h1, h2⟩
theorem Tx.End.uniq {t : Tx} {f e d : Nat} (h : t.End f e) (g : t.End f d) : e = d := by
  have he := h.lt
  have hd := g.lt
  have tri : ∀ {P : Prop}, (e < d → False) → (d < e → False) → e = d := fun {P} h1 h2 => by
    rcases Nat.lt_trichotomy e d with h | h | h
    · exact (h1 h).elim
    · exact h
    · exact (h2 h).elim
  rcases h with ⟨a1, a2, a3⟩ | ⟨a1, a2, a3, a4⟩ | ⟨a1, a2, a3, a4⟩ | ⟨a1, a2, a3, a4, a5⟩ <;> rcases g with ⟨b1, b2, b3⟩ | ⟨b1, b2, b3, b4⟩ | ⟨b1, b2, b3, b4⟩ | ⟨b1, b2, b3, b4, b5⟩
  · exact tri (P := True) (fun h => b3 e he.1 h a2) (fun h => a3 d hd.1 h b2)
  · exact absurd a2 (b1 e a1)
  · exact absurd a2 (b1 e a1).1
  · exact absurd a2 (b1 e a1).1
  · exact absurd b2 (a1 d b1)
  · exact tri (P := True) (fun h => a4 d h b2 b3) (fun h => b4 e h a2 a3)
  · exact absurd a3 (b1 e a2).2
  · exact absurd a3 (b1 e a2).2.1
  · exact absurd b2 (a1 d b1).1
  · exact absurd b3 (a1 d b2).2
  · exact tri (P := True) (fun h => a4 d h b2 b3) (fun h => b4 e h a2 a3)
  · exact absurd a3 (b1 e a2).2.2
  · exact absurd b2 (a1 d b1).1
  · exact absurd b3 (a1 d b2).2.1
  · exact absurd b3 (a1 d b2).2.2
  · exact tri (P := True) (fun h => by
      rcases a4 with a4 | a4
      · exact (b5 e a2 h).1 a4
      · exact (b5 e a2 h).2 a4) (fun h => by
      rcases b4 with b4 | b4
      · exact (a5 d b2 h).1 b4
      · exact (a5 d b2 h).2 b4)

/-- which places fit, where it is known which is the first one that does not -/
theorem Tx.F_iff {t : Tx} (ht : t.Ok) {f a : Nat} (h1 : ∀ j, f < j → j < a → t.F f j) (h2 : f < a → ¬ t.F f a) (hfa : f < a) (j : Nat) : t.F f j ↔ f < j ∧ j < a :=
  ⟨fun h => ⟨h.1, by
    rcases Nat.lt_or_ge j a with h' | h'
    · exact h'
    · exact absurd (h.down ht hfa h') (h2 hfa)⟩, fun h => h1 j h.1 h.2⟩

theorem whole_at {t : Tx} (ht : t.Ok) {j : Nat} (hj : j ≤ t.n) : measure_Ruler_Whole_F (rul t.ws t.cs t.n) (j : Int) = some (who t.ws t.n (j : Int)) := by
  have := ht.nb
  exact whole_F ht.small ht.nw _ (by omega)

theorem end_F (t : Tx) (ht : t.Ok) {f : Nat} (hf : f < t.n) : ∃ e : Nat, fill_end_F (rul t.ws t.cs t.n) t.ss (f : Int) t.w = some (e : Int) ∧ t.End f e := by
  have hb := ht.nb
  have hl := ht.len
  unfold fill_end_F fill_end_T
  rw [wrap_succ (k := f) (by omega)]
  obtain ⟨z, hz, h⟩ := loop_ex (L := fun s : (List Int × List Int) × List Int × Int × Int × Int × Int × Int => fill_end_L3 s.1 s.2.1 s.2.2.1 s.2.2.2.1 s.2.2.2.2.1 s.2.2.2.2.2.1 s.2.2.2.2.2.2)
    (I := fun s => ∃ al wh a : Nat, f < a ∧ a ≤ t.n + 1 ∧ s = (rul t.ws t.cs t.n, t.ss, (f : Int), t.w, (al : Int), (wh : Int), (a : Int)) ∧ (∀ j, f < j → j < a → t.F f j ∧ t.s j ≠ 2) ∧ Last (fun j => t.s j = 1) f a al ∧ Last (fun j => t.W j) f a wh)
    (m := fun s => t.n + 1 - s.2.2.2.2.2.2.toNat)
    (R := fun z => (∃ e : Nat, z = .inr (e : Int) ∧ t.End f e) ∨ ∃ al wh a : Nat, z = .inl (rul t.ws t.cs t.n, t.ss, (f : Int), (al : Int), (wh : Int)) ∧ f < a ∧ (∀ j, t.F f j ↔ f < j ∧ j < a) ∧ (∀ j, f < j → j < a → t.s j ≠ 2) ∧ Last (fun j => t.s j = 1) f a al ∧ Last (fun j => t.W j) f a wh)
    (s0 := (rul t.ws t.cs t.n, t.ss, (f : Int), t.w, (f : Int), (f : Int), ((f + 1 : Nat) : Int)))
    (by
      rintro s ⟨al, wh, a, h1, h2, rfl, h3, h4, h5⟩
      dsimp only
      unfold fill_end_L3
      have stop : ¬ t.F f a → ∃ al' wh' a' : Nat, (Sum.inl (rul t.ws t.cs t.n, t.ss, (f : Int), (al : Int), (wh : Int)) : Sum ((List Int × List Int) × List Int × Int × Int × Int) Int) = .inl (rul t.ws t.cs t.n, t.ss, (f : Int), (al' : Int), (wh' : Int)) ∧ f < a' ∧ (∀ j, t.F f j ↔ f < j ∧ j < a') ∧ (∀ j, f < j → j < a' → t.s j ≠ 2) ∧ Last (fun j => t.s j = 1) f a' al' ∧ Last (fun j => t.W j) f a' wh' := fun hn =>
        ⟨al, wh, a, rfl, h1, Tx.F_iff ht (fun j g1 g2 => (h3 j g1 g2).1) (fun _ => hn) h1, fun j g1 g2 => (h3 j g1 g2).2, h4, h5⟩
      refine Post.bnd (count_F _ _ _) (Post.br (fun c1 => ?_) (fun c1 => Post.pure (.inr (stop ?_))))
      · rw [decide_eq_true_eq] at c1
        refine Post.bnd (shown_F ht.small ht.nw _ _) (Post.br (fun c2 => ?_) (fun c2 => Post.pure (.inr (stop ?_))))
        · rw [decide_eq_true_eq] at c2
          have hF : t.F f a := ⟨h1, by omega, c2⟩
          refine Post.idx 0 a rfl (by omega) (Post.br (fun c3 => Post.pure (.inl ⟨a, rfl, .inl ⟨hF, by simpa using c3, fun j g1 g2 => (h3 j g1 g2).2⟩⟩)) (fun c3 => Post.idx 0 a rfl (by omega) ?_))
          have c3 : t.s a ≠ 2 := by simpa using c3
          have hnext : ∀ j, f < j → j < a + 1 → t.F f j ∧ t.s j ≠ 2 := fun j g1 g2 => by
            by_cases e : j = a
            · rw [e]; exact ⟨hF, c3⟩
            · exact h3 j g1 (by omega)
          rw [wrap_succ (k := a) (by omega)]
          have mk : ∀ {al' wh' : Nat}, Last (fun j => t.s j = 1) f (a + 1) al' → Last (fun j => t.W j) f (a + 1) wh' → (∃ al wh a' : Nat, f < a' ∧ a' ≤ t.n + 1 ∧ (rul t.ws t.cs t.n, t.ss, (f : Int), t.w, (al' : Int), (wh' : Int), ((a + 1 : Nat) : Int)) = (rul t.ws t.cs t.n, t.ss, (f : Int), t.w, (al : Int), (wh : Int), (a' : Int)) ∧ (∀ j, f < j → j < a' → t.F f j ∧ t.s j ≠ 2) ∧ Last (fun j => t.s j = 1) f a' al ∧ Last (fun j => t.W j) f a' wh) ∧ t.n + 1 - ((a + 1 : Nat) : Int).toNat < t.n + 1 - (a : Int).toNat :=
            fun g1 g2 => ⟨⟨_, _, a + 1, by omega, by omega, rfl, hnext, g1, g2⟩, by omega⟩
          refine Post.br (fun c4 => Post.bnd (whole_at ht (by omega)) (Post.br (fun c5 => Post.pure ?_) (fun c5 => Post.pure ?_))) (fun c4 => Post.bnd (whole_at ht (by omega)) (Post.br (fun c5 => Post.pure ?_) (fun c5 => Post.pure ?_)))
          · exact mk (h4.yes h1 (by simpa using c4)) (h5.yes h1 c5)
          · exact mk (h4.yes h1 (by simpa using c4)) (h5.no (by rw [Tx.W, c5]; simp))
          · exact mk (h4.no (by simpa using c4)) (h5.yes h1 c5)
          · exact mk (h4.no (by simpa using c4)) (h5.no (by rw [Tx.W, c5]; simp))
        · rw [decide_eq_false_iff_not] at c2
          exact fun hF => c2 hF.2.2
      · rw [decide_eq_false_iff_not] at c1
        exact fun hF => by have := hF.2.1; omega)
    ⟨f, f, f + 1, by omega, by omega, rfl, fun j g1 g2 => by omega, Last.start _ f, Last.start _ f⟩
  rcases h with ⟨e, rfl, he⟩ | ⟨al, wh, a, rfl, h1, h2, h3, h4, h5⟩
  · exact ⟨e, Post.run (Post.altR hz (Post.pure rfl)), he⟩
  · have no2 : ∀ j, t.F f j → t.s j ≠ 2 := fun j hj => h3 j ((h2 j).1 hj).1 ((h2 j).1 hj).2
    rcases h4 with ⟨e4, g4⟩ | ⟨g1, g2, g3, g4⟩
    · have no1 : ∀ j, t.F f j → t.s j ≠ 1 := fun j hj => g4 j ((h2 j).1 hj).1 ((h2 j).1 hj).2
      rcases h5 with ⟨e5, g5⟩ | ⟨k1, k2, k3, k4⟩
      · have now : ∀ j, t.F f j → ¬ t.W j := fun j hj => g5 j ((h2 j).1 hj).1 ((h2 j).1 hj).2
        obtain ⟨y, hy, e, rfl, q1, q2, q3, q4⟩ := loop_ex (L := fun s : (List Int × List Int) × List Int × Int => fill_end_L16 s.1 s.2.1 s.2.2)
          (I := fun s => ∃ a : Nat, f < a ∧ a ≤ t.n ∧ s = (rul t.ws t.cs t.n, t.ss, (a : Int)) ∧ ∀ j, f < j → j < a → ¬ t.W j ∧ t.s j ≠ 2)
          (m := fun s => t.n + 1 - s.2.2.toNat) (R := fun z => ∃ e : Nat, z = (e : Int) ∧ f < e ∧ e ≤ t.n ∧ (t.W e ∨ t.s e = 2) ∧ ∀ j, f < j → j < e → ¬ t.W j ∧ t.s j ≠ 2)
          (s0 := (rul t.ws t.cs t.n, t.ss, ((f + 1 : Nat) : Int)))
          (by
            rintro s ⟨a, h1, h2, rfl, h3⟩
            dsimp only
            unfold fill_end_L16
            refine Post.bnd (whole_at ht h2) (Post.br (fun c1 => Post.idx 0 a rfl (by omega) (Post.br (fun c2 => Post.pure ?_) (fun c2 => Post.pure ⟨a, rfl, h1, h2, .inr (by simpa using c2), h3⟩))) (fun c1 => Post.pure ⟨a, rfl, h1, h2, .inl (by simpa using c1), h3⟩))
            have c1 : ¬ t.W a := by simpa [Tx.W] using c1
            have c2 : t.s a ≠ 2 := by simpa using c2
            have hne : a ≠ t.n := fun e => c1 (e ▸ Tx.last)
            rw [wrap_succ (k := a) (by omega)]
            exact ⟨⟨a + 1, by omega, by omega, rfl, fun j g1 g2 => by
              by_cases e : j = a
              · rw [e]; exact ⟨c1, c2⟩
              · exact h3 j g1 (by omega)⟩, by dsimp only; omega⟩)
          ⟨f + 1, by omega, by omega, rfl, fun j g1 g2 => by omega⟩
        refine ⟨e, Post.run (Post.altL hz (Post.brF (by rw [e4]; simp) (Post.brF (by rw [e5]; simp) (Post.bnd ?_ (Post.pure rfl))))), .inr (.inr (.inr ⟨fun j hj => ⟨no2 j hj, no1 j hj, now j hj⟩, q1, q2, q3, q4⟩))⟩
        rw [wrap_succ (k := f) (by omega)]
        exact hy
      · exact ⟨wh, Post.run (Post.altL hz (Post.brF (by rw [e4]; simp) (Post.brT (by simp; omega) (Post.pure rfl)))), .inr (.inr (.inl ⟨fun j hj => ⟨no2 j hj, no1 j hj⟩, (h2 wh).2 ⟨k1, k2⟩, k3, fun j hj hF => k4 j hj ((h2 j).1 hF).2⟩))⟩
    · exact ⟨al, Post.run (Post.altL hz (Post.brT (by simp; omega) (Post.pure rfl))), .inr (.inl ⟨no2, (h2 al).2 ⟨g1, g2⟩, g3, fun j hj hF => g4 j hj ((h2 j).1 hF).2⟩)⟩

/-- the document's end of a line -/
theorem lawEnd_F (t : Tx) (ht : t.Ok) {f : Nat} (hf : f < t.n) : ∃ e : Nat, law23_end_F (rul t.ws t.cs t.n) t.ss (f : Int) t.w = some (e : Int) ∧ t.End f e := by
  have hb := ht.nb
  have hl := ht.len
  have fit_F : ∀ j : Nat, f < j → j ≤ t.n → ∃ b, law23_end_1_F (j : Int) (rul t.ws t.cs t.n) (f : Int) t.w = some b ∧ (b = true ↔ t.F f j) := fun j h1 h2 => by
    refine ⟨decide (sho t.ws t.cs t.n (f : Int) (j : Int) ≤ t.w), ?_, ?_⟩
    · unfold law23_end_1_F law23_end_1_T
      exact Post.run (Post.bnd (shown_F ht.small ht.nw _ _) (Post.pure rfl))
    · rw [decide_eq_true_eq]
      exact ⟨fun h => ⟨h1, h2, h⟩, fun h => h.2.2⟩
  unfold law23_end_F law23_end_T
  rw [wrap_succ (k := f) (by omega)]
  -- the first that must be
  obtain ⟨z, hz, h⟩ := loop_ex (L := fun s : List Int × (List Int × List Int) × Int × ((List Int × List Int) × Int × Int) × Int => law23_end_L3 s.1 s.2.1 s.2.2.1 s.2.2.2.1 s.2.2.2.2)
    (I := fun s => ∃ a : Nat, f < a ∧ a ≤ t.n + 1 ∧ s = (t.ss, rul t.ws t.cs t.n, (f : Int), (rul t.ws t.cs t.n, (f : Int), t.w), (a : Int)) ∧ ∀ j, f < j → j < a → t.F f j ∧ t.s j ≠ 2)
    (m := fun s => t.n + 1 - s.2.2.2.2.toNat)
    (R := fun z => (∃ e : Nat, z = .inr (e : Int) ∧ t.End f e) ∨ (z = .inl (t.ss, rul t.ws t.cs t.n, (f : Int), rul t.ws t.cs t.n, (f : Int), t.w) ∧ ∀ j, t.F f j → t.s j ≠ 2))
    (s0 := (t.ss, rul t.ws t.cs t.n, (f : Int), (rul t.ws t.cs t.n, (f : Int), t.w), ((f + 1 : Nat) : Int)))
    (by
      rintro s ⟨a, h1, h2, rfl, h3⟩
      dsimp only
      unfold law23_end_L3
      have stop : ¬ t.F f a → ∀ j, t.F f j → t.s j ≠ 2 := fun hn j hj => by
        have := (Tx.F_iff ht (fun j g1 g2 => (h3 j g1 g2).1) (fun _ => hn) h1 j).1 hj
        exact (h3 j this.1 this.2).2
      refine Post.bnd (count_F _ _ _) (Post.br (fun c1 => ?_) (fun c1 => Post.pure (.inr ⟨rfl, stop ?_⟩)))
      · rw [decide_eq_true_eq] at c1
        obtain ⟨b, hb1, hb2⟩ := fit_F a h1 (by omega)
        refine Post.bnd hb1 (Post.br (fun c2 => ?_) (fun c2 => Post.pure (.inr ⟨rfl, stop ?_⟩)))
        · have hF := hb2.1 c2
          refine Post.idx 0 a rfl (by omega) (Post.br (fun c3 => Post.pure (.inl ⟨a, rfl, .inl ⟨hF, by simpa using c3, fun j g1 g2 => (h3 j g1 g2).2⟩⟩)) (fun c3 => Post.pure ?_))
          have c3 : t.s a ≠ 2 := by simpa using c3
          rw [wrap_succ (k := a) (by omega)]
          exact ⟨⟨a + 1, by omega, by omega, rfl, fun j g1 g2 => by
            by_cases e : j = a
            · rw [e]; exact ⟨hF, c3⟩
            · exact h3 j g1 (by omega)⟩, by dsimp only; omega⟩
        · exact fun hF => by rw [hb2.2 hF] at c2; cases c2
      · rw [decide_eq_false_iff_not] at c1
        exact fun hF => by have := hF.2.1; omega)
    ⟨f + 1, by omega, by omega, rfl, fun j g1 g2 => by omega⟩
  rcases h with ⟨e, rfl, he⟩ | ⟨rfl, no2⟩
  · exact ⟨e, Post.run (Post.altR hz (Post.pure rfl)), he⟩
  -- the last that may be
  obtain ⟨y, hy, h⟩ := loop_ex (L := fun s : List Int × (List Int × List Int) × Int × ((List Int × List Int) × Int × Int) × Int => law23_end_L8 s.1 s.2.1 s.2.2.1 s.2.2.2.1 s.2.2.2.2)
    (I := fun s => ∃ a : Nat, f ≤ a ∧ a ≤ t.n ∧ s = (t.ss, rul t.ws t.cs t.n, (f : Int), (rul t.ws t.cs t.n, (f : Int), t.w), (a : Int)) ∧ ∀ j, a < j → t.F f j → t.s j ≠ 1)
    (m := fun s => s.2.2.2.2.toNat)
    (R := fun z => (∃ e : Nat, z = .inr (e : Int) ∧ t.End f e) ∨ (z = .inl (t.ss, rul t.ws t.cs t.n, (f : Int), rul t.ws t.cs t.n, (f : Int), t.w) ∧ ∀ j, t.F f j → t.s j ≠ 1))
    (s0 := (t.ss, rul t.ws t.cs t.n, (f : Int), (rul t.ws t.cs t.n, (f : Int), t.w), (t.n : Int)))
    (by
      rintro s ⟨a, h1, h2, rfl, h3⟩
      dsimp only
      unfold law23_end_L8
      refine Post.br (fun c1 => ?_) (fun c1 => Post.pure (.inr ⟨rfl, fun j hj => h3 j ?_ hj⟩))
      · rw [decide_eq_true_eq] at c1
        obtain ⟨b, hb1, hb2⟩ := fit_F a (by omega) h2
        have hw : IntKind.i64.wrap ((a : Int) - 1) = ((a - 1 : Nat) : Int) := by rw [wrap64 (by omega) (by omega)]; omega
        have next : (t.F f a → t.s a ≠ 1) → (∃ a' : Nat, f ≤ a' ∧ a' ≤ t.n ∧ (t.ss, rul t.ws t.cs t.n, (f : Int), (rul t.ws t.cs t.n, (f : Int), t.w), ((a - 1 : Nat) : Int)) = (t.ss, rul t.ws t.cs t.n, (f : Int), (rul t.ws t.cs t.n, (f : Int), t.w), (a' : Int)) ∧ ∀ j, a' < j → t.F f j → t.s j ≠ 1) ∧ ((a - 1 : Nat) : Int).toNat < (a : Int).toNat := fun hno =>
          ⟨⟨a - 1, by omega, by omega, rfl, fun j hj hF => by
            by_cases e : j = a
            · rw [e] at hF ⊢; exact hno hF
            · exact h3 j (by omega) hF⟩, by omega⟩
        refine Post.bnd hb1 (Post.br (fun c2 => Post.idx 0 a rfl (by omega) (Post.br (fun c3 => Post.pure (.inl ⟨a, rfl, .inr (.inl ⟨no2, hb2.1 c2, by simpa using c3, h3⟩)⟩)) (fun c3 => Post.pure ?_))) (fun c2 => Post.pure ?_))
        · rw [hw]; exact next fun _ => by simpa using c3
        · rw [hw]; exact next fun hF => by rw [hb2.2 hF] at c2; cases c2
      · rw [decide_eq_false_iff_not] at c1
        have := hj.1; omega)
    ⟨t.n, by omega, Nat.le_refl _, rfl, fun j h1 h2 => by have := h2.2.1; omega⟩
  rcases h with ⟨e, rfl, he⟩ | ⟨rfl, no1⟩
  · exact ⟨e, Post.run (Post.altL hz (Post.bnd (count_F _ _ _) (Post.altR hy (Post.pure rfl)))), he⟩
  -- the last that is whole
  obtain ⟨x, hx, h⟩ := loop_ex (L := fun s : List Int × (List Int × List Int) × Int × ((List Int × List Int) × Int × Int) × Int => law23_end_L13 s.1 s.2.1 s.2.2.1 s.2.2.2.1 s.2.2.2.2)
    (I := fun s => ∃ a : Nat, f ≤ a ∧ a ≤ t.n ∧ s = (t.ss, rul t.ws t.cs t.n, (f : Int), (rul t.ws t.cs t.n, (f : Int), t.w), (a : Int)) ∧ ∀ j, a < j → t.F f j → ¬ t.W j)
    (m := fun s => s.2.2.2.2.toNat)
    (R := fun z => (∃ e : Nat, z = .inr (e : Int) ∧ t.End f e) ∨ (z = .inl (t.ss, rul t.ws t.cs t.n, (f : Int)) ∧ ∀ j, t.F f j → ¬ t.W j))
    (s0 := (t.ss, rul t.ws t.cs t.n, (f : Int), (rul t.ws t.cs t.n, (f : Int), t.w), (t.n : Int)))
    (by
      rintro s ⟨a, h1, h2, rfl, h3⟩
      dsimp only
      unfold law23_end_L13
      refine Post.br (fun c1 => ?_) (fun c1 => Post.pure (.inr ⟨rfl, fun j hj => h3 j ?_ hj⟩))
      · rw [decide_eq_true_eq] at c1
        obtain ⟨b, hb1, hb2⟩ := fit_F a (by omega) h2
        have hw : IntKind.i64.wrap ((a : Int) - 1) = ((a - 1 : Nat) : Int) := by rw [wrap64 (by omega) (by omega)]; omega
        have next : (t.F f a → ¬ t.W a) → (∃ a' : Nat, f ≤ a' ∧ a' ≤ t.n ∧ (t.ss, rul t.ws t.cs t.n, (f : Int), (rul t.ws t.cs t.n, (f : Int), t.w), ((a - 1 : Nat) : Int)) = (t.ss, rul t.ws t.cs t.n, (f : Int), (rul t.ws t.cs t.n, (f : Int), t.w), (a' : Int)) ∧ ∀ j, a' < j → t.F f j → ¬ t.W j) ∧ ((a - 1 : Nat) : Int).toNat < (a : Int).toNat := fun hno =>
          ⟨⟨a - 1, by omega, by omega, rfl, fun j hj hF => by
            by_cases e : j = a
            · rw [e] at hF ⊢; exact hno hF
            · exact h3 j (by omega) hF⟩, by omega⟩
        refine Post.bnd hb1 (Post.br (fun c2 => Post.bnd (whole_at ht h2) (Post.br (fun c3 => Post.pure (.inl ⟨a, rfl, .inr (.inr (.inl ⟨fun j hj => ⟨no2 j hj, no1 j hj⟩, hb2.1 c2, c3, h3⟩))⟩)) (fun c3 => Post.pure ?_))) (fun c2 => Post.pure ?_))
        · rw [hw]; exact next fun _ => by rw [Tx.W, c3]; simp
        · rw [hw]; exact next fun hF => by rw [hb2.2 hF] at c2; cases c2
      · rw [decide_eq_false_iff_not] at c1
        have := hj.1; omega)
    ⟨t.n, by omega, Nat.le_refl _, rfl, fun j h1 h2 => by have := h2.2.1; omega⟩
  rcases h with ⟨e, rfl, he⟩ | ⟨rfl, now⟩
  · exact ⟨e, Post.run (Post.altL hz (Post.bnd (count_F _ _ _) (Post.altL hy (Post.bnd (count_F _ _ _) (Post.altR hx (Post.pure rfl)))))), he⟩
  -- the first that is whole
  have fin : ∀ {e : Nat}, f < e → e ≤ t.n → (t.W e ∨ t.s e = 2) → (∀ j, f < j → j < e → ¬ t.W j ∧ t.s j ≠ 2) → t.End f e := fun h1 h2 h3 h4 =>
    .inr (.inr (.inr ⟨fun j hj => ⟨no2 j hj, no1 j hj, now j hj⟩, h1, h2, h3, h4⟩))
  obtain ⟨u, hu, h⟩ := loop_ex (L := fun s : List Int × (List Int × List Int) × Int => law23_end_L18 s.1 s.2.1 s.2.2)
    (I := fun s => ∃ a : Nat, f < a ∧ a ≤ t.n ∧ s = (t.ss, rul t.ws t.cs t.n, (a : Int)) ∧ ∀ j, f < j → j < a → ¬ t.W j ∧ t.s j ≠ 2)
    (m := fun s => t.n + 1 - s.2.2.toNat) (R := fun z => (∃ e : Nat, z = .inr (e : Int) ∧ t.End f e) ∨ (z = .inl (rul t.ws t.cs t.n) ∧ t.End f t.n))
    (s0 := (t.ss, rul t.ws t.cs t.n, ((f + 1 : Nat) : Int)))
    (by
      rintro s ⟨a, h1, h2, rfl, h3⟩
      dsimp only
      unfold law23_end_L18
      refine Post.bnd (count_F _ _ _) (Post.br (fun c0 => ?_) (fun c0 => Post.pure (.inr ⟨rfl, ?_⟩)))
      · rw [decide_eq_true_eq] at c0
        refine Post.bnd (whole_at ht h2) (Post.br (fun c1 => Post.pure (.inl ⟨a, rfl, fin h1 h2 (.inl c1) h3⟩)) (fun c1 => Post.idx 0 a rfl (by omega) (Post.br (fun c2 => Post.pure (.inl ⟨a, rfl, fin h1 h2 (.inr (by simpa using c2)) h3⟩)) (fun c2 => Post.pure ?_))))
        have c1 : ¬ t.W a := by rw [Tx.W, c1]; simp
        have c2 : t.s a ≠ 2 := by simpa using c2
        rw [wrap_succ (k := a) (by omega)]
        exact ⟨⟨a + 1, by omega, by omega, rfl, fun j g1 g2 => by
          by_cases e : j = a
          · rw [e]; exact ⟨c1, c2⟩
          · exact h3 j g1 (by omega)⟩, by dsimp only; omega⟩
      · rw [decide_eq_false_iff_not] at c0
        have e : a = t.n := by omega
        exact fin hf (Nat.le_refl _) (.inl Tx.last) (fun j g1 g2 => h3 j g1 (by omega)))
    ⟨f + 1, by omega, by omega, rfl, fun j g1 g2 => by omega⟩
  rcases h with ⟨e, rfl, he⟩ | ⟨rfl, he⟩
  · refine ⟨e, Post.run (Post.altL hz (Post.bnd (count_F _ _ _) (Post.altL hy (Post.bnd (count_F _ _ _) (Post.altL hx ?_))))), he⟩
    dsimp only
    rw [wrap_succ (k := f) (by omega)]
    exact Post.altR hu (Post.pure rfl)
  · refine ⟨t.n, Post.run (Post.altL hz (Post.bnd (count_F _ _ _) (Post.altL hy (Post.bnd (count_F _ _ _) (Post.altL hx ?_))))), he⟩
    dsimp only
    rw [wrap_succ (k := f) (by omega)]
    exact Post.altL hu (Post.bnd (count_F _ _ _) (Post.pure rfl))

abbrev Ln := Int × Int × Bool × Bool
/-- lines from a place on -/
def Tx.Lines (t : Tx) : Nat → List Ln → Prop
  | f, [] => f = t.n
  | f, l :: r => ∃ e : Nat, t.End f e ∧ l = ((f : Int), (e : Int), t.s e == 2, t.s e == 0) ∧ t.Lines e r
/-- some lines up to a place -/
def Tx.Upto (t : Tx) : Nat → List Ln → Nat → Prop
  | f, [], b => f = b
  | f, l :: r, b => ∃ e : Nat, t.End f e ∧ l = ((f : Int), (e : Int), t.s e == 2, t.s e == 0) ∧ t.Upto e r b
theorem Tx.Upto.snoc {t : Tx} {b e : Nat} (he : t.End b e) : ∀ {l : List Ln} {f : Nat}, t.Upto f l b → t.Upto f (l ++ [((b : Int), (e : Int), t.s e == 2, t.s e == 0)]) e
  | [], f, h => by
    have h : f = b := h
    subst h
    exact ⟨e, he, rfl, rfl⟩
  | x :: l, f, h => by
    obtain ⟨d, h1, h2, h3⟩ := h
    exact ⟨d, h1, h2, h3.snoc he⟩
theorem Tx.Upto.lines {t : Tx} : ∀ {l : List Ln} {f : Nat}, t.Upto f l t.n → t.Lines f l
  | [], _, h => h
  | _ :: _, _, h => let ⟨e, h1, h2, h3⟩ := h; ⟨e, h1, h2, h3.lines⟩
theorem Tx.Upto.len {t : Tx} : ∀ {l : List Ln} {f b : Nat}, t.Upto f l b → f + l.length ≤ b
  | [], f, b, h => by
    have h : f = b := h
    simp [h]
  | x :: l, f, b, h => by
    obtain ⟨d, h1, _, h3⟩ := h
    have := h1.lt
    have := h3.len
    simp only [List.length_cons]
    omega
theorem Tx.Lines.len {t : Tx} : ∀ {l : List Ln} {f : Nat}, t.Lines f l → f + l.length ≤ t.n
  | [], f, h => by
    have h : f = t.n := h
    simp [h]
  | x :: l, f, h => by
    obtain ⟨d, h1, _, h3⟩ := h
    have := h1.lt
    have := h3.len
    simp only [List.length_cons]
    omega

theorem lines_F (t : Tx) (ht : t.Ok) (hw : 1 ≤ t.w) : ∃ l, fill_Lines_F (rul t.ws t.cs t.n) t.ss t.w = some (l, none) ∧ t.Lines 0 l := by
  have hb := ht.nb
  have hl := ht.len
  unfold fill_Lines_F fill_Lines_T
  obtain ⟨z, hz, h⟩ := loop_ex (L := fun s : (List Int × List Int) × List Int × Int × (List Ln) × Int => fill_Lines_L7 s.1 s.2.1 s.2.2.1 s.2.2.2.1 s.2.2.2.2)
    (I := fun s => ∃ (l : List Ln) (f : Nat), f ≤ t.n ∧ s = (rul t.ws t.cs t.n, t.ss, t.w, l, (f : Int)) ∧ t.Upto 0 l f)
    (m := fun s => t.n - s.2.2.2.2.toNat) (R := fun z => t.Lines 0 z) (s0 := (rul t.ws t.cs t.n, t.ss, t.w, [], 0))
    (by
      rintro s ⟨l, f, h1, rfl, h2⟩
      dsimp only
      unfold fill_Lines_L7
      have hll := h2.len
      refine Post.bnd (count_F _ _ _) (Post.br (fun c => ?_) (fun c => Post.pure ?_))
      · rw [decide_eq_true_eq] at c
        obtain ⟨e, he, hE⟩ := end_F t ht (f := f) (by omega)
        have hlt := hE.lt
        refine Post.bnd he (Post.idx 0 e rfl (by omega) (Post.idx 0 e rfl (by omega) (Post.bnd (app_eq (by simp only [List.length_cons, List.length_nil]; omega)) (Post.pure ?_))))
        exact ⟨⟨_, e, hlt.2, rfl, h2.snoc hE⟩, by dsimp only; omega⟩
      · rw [decide_eq_false_iff_not] at c
        have : f = t.n := by omega
        subst this
        exact h2.lines)
    ⟨[], 0, by omega, rfl, rfl⟩
  refine ⟨z, Post.run (Post.brF (decide_eq_false (by omega)) (Post.bnd (count_F _ _ _) (Post.brF ?_ (Post.bnd hz (Post.pure rfl))))), h⟩
  rw [wrap_succ (k := t.n) (by omega), hl]
  simp

/-- the statuses of some numbers -/
def sta (ns : List Int) (n k : Nat) : Int := if k = 0 then 0 else if k = n then 2 else if k < ns.length then (ns.getD k 0) % 3 else 0
theorem statuses_F (ns : List Int) (n : Nat) (hn : n ≤ 4194304) (h8 : ∀ m ∈ ns, 0 ≤ m ∧ m ≤ 255) : law23_Statuses_F ns (n : Int) = some (tab (n + 1) (sta ns n)) := by
  unfold law23_Statuses_F law23_Statuses_T
  rw [wrap_succ (k := n) (by omega)]
  refine Post.run (Post.bnd (mk_eq rfl (by omega)) (Post.bnd (count (n - 1) (fun k => (ns, (n : Int), tab (n + 1) (fun i => if i < k + 1 ∧ i ≠ n then sta ns n i else 0), ((k + 1 : Nat) : Int))) (r := ((n : Int), tab (n + 1) (fun i => if i ≠ n then sta ns n i else 0))) ?_ (fun k hk => ?_) ?_) ?_))
  · rw [tab_rep]
    have : tab (n + 1) (fun _ => (0 : Int)) = tab (n + 1) (fun i => if i < 0 + 1 ∧ i ≠ n then sta ns n i else 0) := tab_congr fun i hi => by
      by_cases h : i < 0 + 1 ∧ i ≠ n
      · rw [if_pos h]; unfold sta; rw [if_pos (by omega)]
      · rw [if_neg h]
    rw [this]
    rfl
  · dsimp only
    unfold law23_Statuses_L3
    rw [toNat_nat, wrap_succ (k := k + 1) (by omega)]
    have same : sta ns n (k + 1) = 0 → tab (n + 1) (fun i => if i < k + 1 ∧ i ≠ n then sta ns n i else 0) = tab (n + 1) (fun i => if i < k + 1 + 1 ∧ i ≠ n then sta ns n i else 0) := fun h => tab_congr fun i hi => by
      by_cases e : i = k + 1
      · subst e
        rw [if_neg (by omega), if_pos (by omega), h]
      · by_cases e2 : i < k + 1 ∧ i ≠ n
        · rw [if_pos e2, if_pos (by omega)]
        · rw [if_neg e2, if_neg (by omega)]
    refine Post.brT (decide_eq_true (by omega)) (Post.br (fun h => ?_) (fun h => Post.pure ?_))
    · rw [decide_eq_true_eq] at h
      refine Post.idx 0 (k + 1) rfl (by omega) (ptab (k + 1) rfl (by omega) (Post.pure ?_))
      have hm : 0 ≤ ns.getD (k + 1) 0 ∧ ns.getD (k + 1) 0 ≤ 255 := h8 _ (by
        rw [show ns.getD (k + 1) 0 = ns[k + 1] by simp [List.getD, show k + 1 < ns.length by omega]]
        exact List.getElem_mem (by omega))
      rw [Int.tmod_eq_emod_of_nonneg hm.1, wrap64 (by omega) (by omega), tab_set]
      congr 4
      refine tab_congr fun i hi => ?_
      by_cases e : i = k + 1
      · subst e
        rw [if_pos rfl, if_pos (by omega)]
        unfold sta
        rw [if_neg (by omega), if_neg (by omega), if_pos (by omega)]
      · rw [if_neg e]
        by_cases e2 : i < k + 1 ∧ i ≠ n
        · rw [if_pos e2, if_pos (by omega)]
        · rw [if_neg e2, if_neg (by omega)]
    · rw [decide_eq_false_iff_not] at h
      rw [same (by unfold sta; rw [if_neg (by omega), if_neg (by omega), if_neg (by omega)])]
  · dsimp only
    unfold law23_Statuses_L3
    refine Post.brF (decide_eq_false (by omega)) (Post.pure ?_)
    congr 2
    refine tab_congr fun i hi => ?_
    by_cases e : i = n
    · rw [if_neg (by omega), if_neg (by omega)]
    · rw [if_pos e]
      by_cases e2 : i < n - 1 + 1 ∧ i ≠ n
      · rw [if_pos e2]
      · rw [if_neg e2]
        unfold sta
        rw [if_pos (by omega)]
  · dsimp only
    refine Post.br (fun h => ptab n rfl (by omega) (Post.pure ?_)) (fun h => Post.pure ?_)
    · rw [decide_eq_true_eq] at h
      rw [toNat_nat, tab_set]
      refine tab_congr fun i hi => ?_
      by_cases e : i = n
      · subst e
        rw [if_pos rfl]
        unfold sta
        rw [if_neg (by omega), if_pos rfl]
      · rw [if_neg e, if_pos e]
    · rw [decide_eq_false_iff_not] at h
      refine tab_congr fun i hi => ?_
      by_cases e : i = n
      · rw [if_neg (by omega)]
        unfold sta
        rw [if_pos (by omega)]
      · rw [if_pos e]
theorem sta_range (ns : List Int) (n k : Nat) : 0 ≤ sta ns n k ∧ sta ns n k ≤ 2 := by
  unfold sta
  repeat' split
  all_goals omega

end Go.Proofs.Ytafomgonecamlaa
