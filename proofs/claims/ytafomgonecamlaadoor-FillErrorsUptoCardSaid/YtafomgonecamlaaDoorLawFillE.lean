/-
  The law of lines: what is wrong.
-/
import Derived.Test.YtafomgonecamlaaDoorLawMeas
namespace Go.Proofs.YtafomgonecamlaaDoor
set_option linter.all false

/-- the last place behind f and ahead of a where p holds; f, where there is none -/
def Last (p : Nat → Prop) (f a v : Nat) : Prop := (v = f ∧ ∀ j, f < j → j < a → ¬ p j) ∨ (f < v ∧ v < a ∧ p v ∧ ∀ j, v < j → j < a → ¬ p j)
theorem Last.start (p : Nat → Prop) (f : Nat) : Last p f (f + 1) f := .inl ⟨rfl, fun j h1 h2 => by omega⟩
theorem Last.yes {p : Nat → Prop} {f a v : Nat} (_h : Last p f a v) (hf : f < a) (hp : p a) : Last p f (a + 1) a := .inr ⟨hf, by omega, hp, fun j h1 h2 => by omega⟩
theorem Last.no {p : Nat → Prop} {f a v : Nat} (h : Last p f a v) (hp : ¬ p a) : Last p f (a + 1) v := by
  have key : ∀ {l}, (∀ j, l < j → j < a → ¬ p j) → ∀ j, l < j → j < a + 1 → ¬ p j := fun h j h1 h2 => by
    by_cases e : j = a
    · rw [e]; exact hp
    · exact h j h1 (by omega)
  rcases h with ⟨h1, h2⟩ | ⟨h1, h2, h3, h4⟩
  · exact .inl ⟨h1, key h2⟩
  · exact .inr ⟨h1, by omega, h3, key h4⟩

structure Tx where
  ws : List Int
  cs : List Int
  n : Nat
  ss : List Int
  w : Int
/-- what a text must be -/
structure Tx.Ok (t : Tx) : Prop where
  small : Small t.ws
  nw : t.n ≤ t.ws.length
  nb : t.n ≤ 4194304
  len : t.ss.length = t.n + 1
  range : ∀ j, 0 ≤ t.ss.getD j 0 ∧ t.ss.getD j 0 ≤ 2
abbrev Tx.s (t : Tx) (j : Nat) : Int := t.ss.getD j 0
abbrev Tx.W (t : Tx) (j : Nat) : Prop := who t.ws t.n (j : Int) = true
/-- a place behind f that fits -/
def Tx.F (t : Tx) (f j : Nat) : Prop := f < j ∧ j ≤ t.n ∧ sho t.ws t.cs t.n (f : Int) (j : Int) ≤ t.w
theorem sho_mono {ws cs : List Int} {n : Nat} (hs : Small ws) (hw : n ≤ ws.length) {f i j : Nat} (h1 : f ≤ i) (h2 : i ≤ j) (h3 : j ≤ n) : sho ws cs n (f : Int) (i : Int) ≤ sho ws cs n (f : Int) (j : Int) := by
  rw [sho_at h1 (by omega), sho_at (by omega) h3]
  have s1 := sol_le cs i
  have s2 := sol_le cs j
  have s3 := sol_mono cs h2
  have := pre_mono hs (i := max f (sol cs i).toNat) (j := max f (sol cs j).toNat) (by omega) (by omega)
  omega
theorem Tx.F.down {t : Tx} (ht : t.Ok) {f i j : Nat} (h : t.F f j) (h1 : f < i) (h2 : i ≤ j) : t.F f i :=
  ⟨h1, by have := h.2.1; omega, Int.le_trans (sho_mono ht.small ht.nw (by omega) h2 h.2.1) h.2.2⟩
theorem Tx.last {t : Tx} : t.W t.n := by simp [Tx.W, who]

/-- where a line ends that begins at f -/
def Tx.End (t : Tx) (f e : Nat) : Prop :=
  (t.F f e ∧ t.s e = 2 ∧ ∀ j, f < j → j < e → t.s j ≠ 2) ∨
  ((∀ j, t.F f j → t.s j ≠ 2) ∧ t.F f e ∧ t.s e = 1 ∧ ∀ j, e < j → t.F f j → t.s j ≠ 1) ∨
  ((∀ j, t.F f j → t.s j ≠ 2 ∧ t.s j ≠ 1) ∧ t.F f e ∧ t.W e ∧ ∀ j, e < j → t.F f j → ¬ t.W j) ∨
  ((∀ j, t.F f j → t.s j ≠ 2 ∧ t.s j ≠ 1 ∧ ¬ t.W j) ∧ f < e ∧ e ≤ t.n ∧ (t.W e ∨ t.s e = 2) ∧ ∀ j, f < j → j < e → ¬ t.W j ∧ t.s j ≠ 2)
theorem Tx.End.lt {t : Tx} {f e : Nat} (h : t.End f e) : f < e ∧ e ≤ t.n := by
  rcases h with ⟨h, _⟩ | ⟨_, h, _⟩ | ⟨_, h, _⟩ | ⟨_, h1, h2, _⟩
  · exact ⟨h.1, h.2.1⟩
  · exact ⟨h.1, h.2.1⟩
  · exact ⟨h.1, h.2.1⟩
  · exact ⟨h1, h2⟩
theorem Tx.End.uniq {t : Tx} {f e d : Nat} (h : t.End f e) (g : t.End f d) : e = d := by
  have he := h.lt
  have hd := g.lt
  have tri : ∀ {P : Prop}, (e < d → False) → (d < e → False) → e = d := fun {P} h1 h2 => by
    rcases Nat.lt_trichotomy e d with h | h | h
    · exact (h1 h).elim
    · exact h
    · exact (h2 h).elim
  rcases h with ⟨a1, a2, a3⟩ | ⟨a1, a2, a3, a4⟩ | ⟨a1, a2, a3, a4⟩ | ⟨a1, a2, a3, a4, a5⟩ <;> rcases g with ⟨b1, b2, b3⟩ | ⟨b1, b2, b3, b4⟩ | ⟨b1, b2, b3, b4⟩ | ⟨b1, b2, b3, b4, b5⟩
  · exact tri (P := True) (fun h => b3 e he.1 h a2) (fun h => a3 d hd.1 h b2)
  · exact absurd a2 (b1 e a1)
  · exact absurd a2 (b1 e a1).1
  · exact absurd a2 (b1 e a1).1
  · exact absurd b2 (a1 d b1)
  · exact tri (P := True) (fun h => a4 d h b2 b3) (fun h => b4 e h a2 a3)
  · exact absurd a3 (b1 e a2).2
  · exact absurd a3 (b1 e a2).2.1
  · exact absurd b2 (a1 d b1).1
  · exact absurd b3 (a1 d b2).2
  · exact tri (P := True) (fun h => a4 d h b2 b3) (fun h => b4 e h a2 a3)
  · exact absurd a3 (b1 e a2).2.2
  · exact absurd b2 (a1 d b1).1
  · exact absurd b3 (a1 d b2).2.1
  · exact absurd b3 (a1 d b2).2.2
  · exact tri (P := True) (fun h => by
      rcases a4 with a4 | a4
      · exact (b5 e a2 h).1 a4
      · exact (b5 e a2 h).2 a4) (fun h => by
      rcases b4 with b4 | b4
      · exact (a5 d b2 h).1 b4
      · exact (a5 d b2 h).2 b4)

/-- which places fit, where it is known which is the first one that does not -/
theorem Tx.F_iff {t : Tx} (ht : t.Ok) {f a : Nat} (h1 : ∀ j, f < j → j < a → t.F f j) (h2 : f < a → ¬ t.F f a) (hfa : f < a) (j : Nat) : t.F f j ↔ f < j ∧ j < a :=
  ⟨fun h => ⟨h.1, by
    rcases Nat.lt_or_ge j a with h' | h'
    · exact h'
    · exact absurd (h.down ht hfa h') (h2 hfa)⟩, fun h => h1 j h.1 h.2⟩

theorem whole_at {t : Tx} (ht : t.Ok) {j : Nat} (hj : j ≤ t.n) : measure_Ruler_Whole_F (rul t.ws t.cs t.n) (j : Int) = some (who t.ws t.n (j : Int)) := by
  have := ht.nb
  exact whole_F ht.small ht.nw _ (by omega)

theorem end_F (t : Tx) (ht : t.Ok) {f : Nat} (hf : f < t.n) : ∃ e : Nat, fill_end_F (rul t.ws t.cs t.n) t.ss (f : Int) t.w = some (e : Int) ∧ t.End f e := by
  have hb := ht.nb
  have hl := ht.len
  unfold fill_end_F fill_end_T
  rw [wrap_succ (k := f) (by omega)]
  obtain ⟨z, hz, h⟩ := loop_ex (L := fun s : (List Int × List Int) × List Int × Int × Int × Int × Int × Int => fill_end_L3 s.1 s.2.1 s.2.2.1 s.2.2.2.1 s.2.2.2.2.1 s.2.2.2.2.2.1 s.2.2.2.2.2.2)
    (I := fun s => ∃ al wh a : Nat, f < a ∧ a ≤ t.n + 1 ∧ s = (rul t.ws t.cs t.n, t.ss, (f : Int), t.w, (al : Int), (wh : Int), (a : Int)) ∧ (∀ j, f < j → j < a → t.F f j ∧ t.s j ≠ 2) ∧ Last (fun j => t.s j = 1) f a al ∧ Last (fun j => t.W j) f a wh)
    (m := fun s => t.n + 1 - s.2.2.2.2.2.2.toNat)
    (R := fun z => (∃ e : Nat, z = .inr (e : Int) ∧ t.End f e) ∨ ∃ al wh a : Nat, z = .inl (rul t.ws t.cs t.n, t.ss, (f : Int), (al : Int), (wh : Int)) ∧ f < a ∧ (∀ j, t.F f j ↔ f < j ∧ j < a) ∧ (∀ j, f < j → j < a → t.s j ≠ 2) ∧ Last (fun j => t.s j = 1) f a al ∧ Last (fun j => t.W j) f a wh)
    (s0 := (rul t.ws t.cs t.n, t.ss, (f : Int), t.w, (f : Int), (f : Int), ((f + 1 : Nat) : Int)))
    (by
      rintro s ⟨al, wh, a, h1, h2, rfl, h3, h4, h5⟩
      dsimp only
      unfold fill_end_L3
      have stop : ¬ t.F f a → ∃ al' wh' a' : Nat, (Sum.inl (rul t.ws t.cs t.n, t.ss, (f : Int), (al : Int), (wh : Int)) : Sum ((List Int × List Int) × List Int × Int × Int × Int) Int) = .inl (rul t.ws t.cs t.n, t.ss, (f : Int), (al' : Int), (wh' : Int)) ∧ f < a' ∧ (∀ j, t.F f j ↔ f < j ∧ j < a') ∧ (∀ j, f < j → j < a' → t.s j ≠ 2) ∧ Last (fun j => t.s j = 1) f a' al' ∧ Last (fun j => t.W j) f a' wh' := fun hn =>
        ⟨al, wh, a, rfl, h1, Tx.F_iff ht (fun j g1 g2 => (h3 j g1 g2).1) (fun _ => hn) h1, fun j g1 g2 => (h3 j g1 g2).2, h4, h5⟩
      refine Post.bnd (count_F _ _ _) (Post.br (fun c1 => ?_) (fun c1 => Post.pure (.inr (stop ?_))))
      · rw [decide_eq_true_eq] at c1
        refine Post.bnd (shown_F ht.small ht.nw _ _) (Post.br (fun c2 => ?_) (fun c2 => Post.pure (.inr (stop ?_))))
        · rw [decide_eq_true_eq] at c2
          have hF : t.F f a := ⟨h1, by omega, c2⟩
          refine Post.idx 0 a rfl (by omega) (Post.br (fun c3 => Post.pure (.inl ⟨a, rfl, .inl ⟨hF, by simpa using c3, fun j g1 g2 => (h3 j g1 g2).2⟩⟩)) (fun c3 => Post.idx 0 a rfl (by omega) ?_))
          have c3 : t.s a ≠ 2 := by simpa using c3
          have hnext : ∀ j, f < j → j < a + 1 → t.F f j ∧ t.s j ≠ 2 := fun j g1 g2 => by
            by_cases e : j = a
            · rw [e]; exact ⟨hF, c3⟩
            · exact h3 j g1 (by omega)
          rw [wrap_succ (k := a) (by omega)]
          have mk : ∀ {al' wh' : Nat}, Last (fun j => t.s j = 1) f (a + 1) al' → Last (fun j => t.W j) f (a + 1) wh' → (∃ al wh a' : Nat, f < a' ∧ a' ≤ t.n + 1 ∧ (rul t.ws t.cs t.n, t.ss, (f : Int), t.w, (al' : Int), (wh' : Int), ((a + 1 : Nat) : Int)) = (rul t.ws t.cs t.n, t.ss, (f : Int), t.w, (al : Int), (wh : Int), (a' : Int)) ∧ (∀ j, f < j → j < a' → t.F f j ∧ t.s j ≠ 2) ∧ Last (fun j => t.s j = 1) f a' al ∧ Last (fun j => t.W j) f a' wh) ∧ t.n + 1 - ((a + 1 : Nat) : Int).toNat < t.n + 1 - (a : Int).toNat :=
            fun g1 g2 => ⟨⟨_, _, a + 1, by omega, by omega, rfl, hnext, g1, g2⟩, by omega⟩
          refine Post.br (fun c4 => Post.bnd (whole_at ht (by omega)) (Post.br (fun c5 => Post.pure ?_) (fun c5 => Post.pure ?_))) (fun c4 => Post.bnd (whole_at ht (by omega)) (Post.br (fun c5 => Post.pure ?_) (fun c5 => Post.pure ?_)))
          · exact mk (h4.yes h1 (by simpa using c4)) (h5.yes h1 c5)
          · exact mk (h4.yes h1 (by simpa using c4)) (h5.no (by rw [Tx.W, c5]; simp))
          · exact mk (h4.no (by simpa using c4)) (h5.yes h1 c5)
          · exact mk (h4.no (by simpa using c4)) (h5.no (by rw [Tx.W, c5]; simp))
        · rw [decide_eq_false_iff_not] at c2
          exact fun hF => c2 hF.2.2
      · rw [decide_eq_false_iff_not] at c1
        exact fun hF => by have := hF.2.1; omega)
    ⟨f, f, f + 1, by omega, by omega, rfl, fun j g1 g2 => by omega, Last.start _ f, Last.start _ f⟩
  rcases h with ⟨e, rfl, he⟩ | ⟨al, wh, a, rfl, h1, h2, h3, h4, h5⟩
  · exact ⟨e, Post.run (Post.altR hz (Post.pure rfl)), he⟩
  · have no2 : ∀ j, t.F f j → t.s j ≠ 2 := fun j hj => h3 j ((h2 j).1 hj).1 ((h2 j).1 hj).2
    rcases h4 with ⟨e4, g4⟩ | ⟨g1, g2, g3, g4⟩
    · have no1 : ∀ j, t.F f j → t.s j ≠ 1 := fun j hj => g4 j ((h2 j).1 hj).1 ((h2 j).1 hj).2
      rcases h5 with ⟨e5, g5⟩ | ⟨k1, k2, k3, k4⟩
      · have now : ∀ j, t.F f j → ¬ t.W j := fun j hj => g5 j ((h2 j).1 hj).1 ((h2 j).1 hj).2
        obtain ⟨y, hy, e, rfl, q1, q2, q3, q4⟩ := loop_ex (L := fun s : (List Int × List Int) × List Int × Int => fill_end_L16 s.1 s.2.1 s.2.2)
          (I := fun s => ∃ a : Nat, f < a ∧ a ≤ t.n ∧ s = (rul t.ws t.cs t.n, t.ss, (a : Int)) ∧ ∀ j, f < j → j < a → ¬ t.W j ∧ t.s j ≠ 2)
          (m := fun s => t.n + 1 - s.2.2.toNat) (R := fun z => ∃ e : Nat, z = (e : Int) ∧ f < e ∧ e ≤ t.n ∧ (t.W e ∨ t.s e = 2) ∧ ∀ j, f < j → j < e → ¬ t.W j ∧ t.s j ≠ 2)
          (s0 := (rul t.ws t.cs t.n, t.ss, ((f + 1 : Nat) : Int)))
          (by
            rintro s ⟨a, h1, h2, rfl, h3⟩
            dsimp only
            unfold fill_end_L16
            refine Post.bnd (whole_at ht h2) (Post.br (fun c1 => Post.idx 0 a rfl (by omega) (Post.br (fun c2 => Post.pure ?_) (fun c2 => Post.pure ⟨a, rfl, h1, h2, .inr (by simpa using c2), h3⟩))) (fun c1 => Post.pure ⟨a, rfl, h1, h2, .inl (by simpa using c1), h3⟩))
            have c1 : ¬ t.W a := by simpa [Tx.W] using c1
            have c2 : t.s a ≠ 2 := by simpa using c2
            have hne : a ≠ t.n := fun e => c1 (e ▸ Tx.last)
            rw [wrap_succ (k := a) (by omega)]
            exact ⟨⟨a + 1, by omega, by omega, rfl, fun j g1 g2 => by
              by_cases e : j = a
              · rw [e]; exact ⟨c1, c2⟩
              · exact h3 j g1 (by omega)⟩, by dsimp only; omega⟩)
          ⟨f + 1, by omega, by omega, rfl, fun j g1 g2 => by omega⟩
        refine ⟨e, Post.run (Post.altL hz (Post.brF (by rw [e4]; simp) (Post.brF (by rw [e5]; simp) (Post.bnd ?_ (Post.pure rfl))))), .inr (.inr (.inr ⟨fun j hj => ⟨no2 j hj, no1 j hj, now j hj⟩, q1, q2, q3, q4⟩))⟩
        rw [wrap_succ (k := f) (by omega)]
        exact hy
      · exact ⟨wh, Post.run (Post.altL hz (Post.brF (by rw [e4]; simp) (Post.brT (by simp; omega) (Post.pure rfl)))), .inr (.inr (.inl ⟨fun j hj => ⟨no2 j hj, no1 j hj⟩, (h2 wh).2 ⟨k1, k2⟩, k3, fun j hj hF => k4 j hj ((h2 j).1 hF).2⟩))⟩
    · exact ⟨al, Post.run (Post.altL hz (Post.brT (by simp; omega) (Post.pure rfl))), .inr (.inl ⟨no2, (h2 al).2 ⟨g1, g2⟩, g3, fun j hj hF => g4 j hj ((h2 j).1 hF).2⟩)⟩

abbrev Ln := Int × Int × Bool × Bool
/-- lines from a place on -/
def Tx.Lines (t : Tx) : Nat → List Ln → Prop
  | f, [] => f = t.n
  | f, l :: r => ∃ e : Nat, t.End f e ∧ l = ((f : Int), (e : Int), t.s e == 2, t.s e == 0) ∧ t.Lines e r
/-- some lines up to a place -/
def Tx.Upto (t : Tx) : Nat → List Ln → Nat → Prop
  | f, [], b => f = b
  | f, l :: r, b => ∃ e : Nat, t.End f e ∧ l = ((f : Int), (e : Int), t.s e == 2, t.s e == 0) ∧ t.Upto e r b
theorem Tx.Upto.snoc {t : Tx} {b e : Nat} (he : t.End b e) : ∀ {l : List Ln} {f : Nat}, t.Upto f l b → t.Upto f (l ++ [((b : Int), (e : Int), t.s e == 2, t.s e == 0)]) e
  | [], f, h => by
    have h : f = b := h
    subst h
    exact ⟨e, he, rfl, rfl⟩
  | x :: l, f, h => by
    obtain ⟨d, h1, h2, h3⟩ := h
    exact ⟨d, h1, h2, h3.snoc he⟩
theorem Tx.Upto.lines {t : Tx} : ∀ {l : List Ln} {f : Nat}, t.Upto f l t.n → t.Lines f l
  | [], _, h => h
  | _ :: _, _, h => let ⟨e, h1, h2, h3⟩ := h; ⟨e, h1, h2, h3.lines⟩
theorem Tx.Upto.len {t : Tx} : ∀ {l : List Ln} {f b : Nat}, t.Upto f l b → f + l.length ≤ b
  | [], f, b, h => by
    have h : f = b := h
    simp [h]
  | x :: l, f, b, h => by
    obtain ⟨d, h1, _, h3⟩ := h
    have := h1.lt
    have := h3.len
    simp only [List.length_cons]
    omega
theorem Tx.Lines.len {t : Tx} : ∀ {l : List Ln} {f : Nat}, t.Lines f l → f + l.length ≤ t.n
  | [], f, h => by
    have h : f = t.n := h
    simp [h]
  | x :: l, f, h => by
    obtain ⟨d, h1, _, h3⟩ := h
    have := h1.lt
    have := h3.len
    simp only [List.length_cons]
    omega

theorem lines_F (t : Tx) (ht : t.Ok) (hw : 1 ≤ t.w) : ∃ l, fill_Lines_F (rul t.ws t.cs t.n) t.ss t.w = some (l, none) ∧ t.Lines 0 l := by
  have hb := ht.nb
  have hl := ht.len
  unfold fill_Lines_F fill_Lines_T
  obtain ⟨z, hz, h⟩ := loop_ex (L := fun s : (List Int × List Int) × List Int × Int × (List Ln) × Int => fill_Lines_L7 s.1 s.2.1 s.2.2.1 s.2.2.2.1 s.2.2.2.2)
    (I := fun s => ∃ (l : List Ln) (f : Nat), f ≤ t.n ∧ s = (rul t.ws t.cs t.n, t.ss, t.w, l, (f : Int)) ∧ t.Upto 0 l f)
    (m := fun s => t.n - s.2.2.2.2.toNat) (R := fun z => t.Lines 0 z) (s0 := (rul t.ws t.cs t.n, t.ss, t.w, [], 0))
    (by
      rintro s ⟨l, f, h1, rfl, h2⟩
      dsimp only
      unfold fill_Lines_L7
      have hll := h2.len
      refine Post.bnd (count_F _ _ _) (Post.br (fun c => ?_) (fun c => Post.pure ?_))
      · rw [decide_eq_true_eq] at c
        obtain ⟨e, he, hE⟩ := end_F t ht (f := f) (by omega)
        have hlt := hE.lt
        refine Post.bnd he (Post.idx 0 e rfl (by omega) (Post.idx 0 e rfl (by omega) (Post.bnd (app_eq (by simp only [List.length_cons, List.length_nil]; omega)) (Post.pure ?_))))
        exact ⟨⟨_, e, hlt.2, rfl, h2.snoc hE⟩, by dsimp only; omega⟩
      · rw [decide_eq_false_iff_not] at c
        have : f = t.n := by omega
        subst this
        exact h2.lines)
    ⟨[], 0, by omega, rfl, rfl⟩
  refine ⟨z, Post.run (Post.brF (decide_eq_false (by omega)) (Post.bnd (count_F _ _ _) (Post.brF ?_ (Post.bnd hz (Post.pure rfl))))), h⟩
  rw [wrap_succ (k := t.n) (by omega), hl]
  simp

theorem box0 {α : Type} (x : α) : idx [x] 0 = some x := rfl
theorem tmod_lt {a m : Int} (ha : 0 ≤ a) (hm : 0 < m) : 0 ≤ a.tmod m ∧ a.tmod m < m := by
  rw [Int.tmod_eq_emod_of_nonneg ha]
  exact ⟨Int.emod_nonneg _ (by omega), Int.emod_lt_of_pos _ hm⟩
theorem width_ok {w : Int} (h : 0 ≤ w ∧ w ≤ 255) : 1 ≤ IntKind.i64.wrap (1 + IntKind.i64.wrap (w.tmod 40)) := by
  have := tmod_lt (a := w) (m := 40) h.1 (by omega)
  rw [wrap64 (n := w.tmod 40) (by omega) (by omega), wrap64 (by omega) (by omega)]
  omega

/-! ### the document's examples -/
def Tx.fB (t : Tx) (f j : Nat) : Bool := decide (f < j) && (decide (j ≤ t.n) && decide (sho t.ws t.cs t.n (f : Int) (j : Int) ≤ t.w))
theorem Tx.fB_iff {t : Tx} {f j : Nat} : t.fB f j = true ↔ t.F f j := by
  unfold Tx.fB Tx.F
  simp only [Bool.and_eq_true, decide_eq_true_eq]
def Tx.wB (t : Tx) (j : Nat) : Bool := who t.ws t.n (j : Int)
def Tx.endB (t : Tx) (f e : Nat) : Bool :=
  (t.fB f e && (t.s e == 2 && (List.range (t.n + 1)).all fun j => !(decide (f < j) && decide (j < e)) || t.s j != 2)) ||
  (((List.range (t.n + 1)).all fun j => !t.fB f j || t.s j != 2) && (t.fB f e && (t.s e == 1 && (List.range (t.n + 1)).all fun j => !(decide (e < j) && t.fB f j) || t.s j != 1))) ||
  (((List.range (t.n + 1)).all fun j => !t.fB f j || (t.s j != 2 && t.s j != 1)) && (t.fB f e && (t.wB e && (List.range (t.n + 1)).all fun j => !(decide (e < j) && t.fB f j) || !t.wB j))) ||
  (((List.range (t.n + 1)).all fun j => !t.fB f j || (t.s j != 2 && (t.s j != 1 && !t.wB j))) && (decide (f < e) && (decide (e ≤ t.n) && ((t.wB e || t.s e == 2) && (List.range (t.n + 1)).all fun j => !(decide (f < j) && decide (j < e)) || (!t.wB j && t.s j != 2)))))
theorem Tx.endB_ok {t : Tx} {f e : Nat} (h : t.endB f e = true) : t.End f e := by
  have all : ∀ {p : Nat → Bool}, (List.range (t.n + 1)).all p = true → ∀ j, j ≤ t.n → p j = true := fun h j hj => List.all_eq_true.1 h j (List.mem_range.2 (by omega))
  have fin : ∀ {j}, t.F f j → j ≤ t.n := fun h => h.2.1
  unfold Tx.endB at h
  rw [Bool.or_eq_true, Bool.or_eq_true, Bool.or_eq_true] at h
  rcases h with ((h | h) | h) | h
  · simp only [Bool.and_eq_true] at h
    obtain ⟨h1, h2, h3⟩ := h
    have hF := Tx.fB_iff.1 h1
    refine .inl ⟨hF, by simpa using h2, fun j g1 g2 => ?_⟩
    have := all h3 j (by have := hF.2.1; omega)
    rw [decide_eq_true g1, decide_eq_true g2] at this
    simpa using this
  · simp only [Bool.and_eq_true] at h
    obtain ⟨h0, h1, h2, h3⟩ := h
    refine .inr (.inl ⟨fun j hj => ?_, Tx.fB_iff.1 h1, by simpa using h2, fun j g1 g2 => ?_⟩)
    · have := all h0 j (fin hj)
      rw [Tx.fB_iff.2 hj] at this
      simpa using this
    · have := all h3 j (fin g2)
      rw [decide_eq_true g1, Tx.fB_iff.2 g2] at this
      simpa using this
  · simp only [Bool.and_eq_true] at h
    obtain ⟨h0, h1, h2, h3⟩ := h
    refine .inr (.inr (.inl ⟨fun j hj => ?_, Tx.fB_iff.1 h1, h2, fun j g1 g2 => ?_⟩))
    · have := all h0 j (fin hj)
      rw [Tx.fB_iff.2 hj] at this
      simpa using this
    · have := all h3 j (fin g2)
      rw [decide_eq_true g1, Tx.fB_iff.2 g2] at this
      have : t.wB j = false := by simpa using this
      unfold Tx.W
      rw [show who t.ws t.n (j : Int) = false from this]
      simp
  · simp only [Bool.and_eq_true] at h
    obtain ⟨h0, h1, h2, h4, h3⟩ := h
    refine .inr (.inr (.inr ⟨fun j hj => ?_, of_decide_eq_true h1, of_decide_eq_true h2, ?_, fun j g1 g2 => ?_⟩))
    · have := all h0 j (fin hj)
      rw [Tx.fB_iff.2 hj] at this
      have : t.s j ≠ 2 ∧ t.s j ≠ 1 ∧ t.wB j = false := by simpa using this
      refine ⟨this.1, this.2.1, ?_⟩
      unfold Tx.W
      rw [show who t.ws t.n (j : Int) = false from this.2.2]
      simp
    · rw [Bool.or_eq_true] at h4
      exact h4.imp id (fun h => by simpa using h)
    · have h2 := of_decide_eq_true h2
      have := all h3 j (by omega)
      rw [decide_eq_true g1, decide_eq_true g2] at this
      have : t.wB j = false ∧ t.s j ≠ 2 := by simpa using this
      refine ⟨?_, this.2⟩
      unfold Tx.W
      rw [show who t.ws t.n (j : Int) = false from this.1]
      simp

theorem Tx.Lines.nil {t : Tx} {l : List Ln} (h : t.Lines t.n l) : l = [] := by
  have := h.len
  exact List.eq_nil_of_length_eq_zero (by omega)
theorem Tx.Lines.cons {t : Tx} {f e : Nat} (hE : t.End f e) : ∀ {l : List Ln}, t.Lines f l → ∃ r, l = ((f : Int), (e : Int), t.s e == 2, t.s e == 0) :: r ∧ t.Lines e r
  | [], h => by
    have h : f = t.n := h
    have := hE.lt
    omega
  | x :: r, h => by
    obtain ⟨d, h1, h2, h3⟩ := h
    have := h1.uniq hE
    subst this
    exact ⟨r, by rw [h2], h3⟩
/-- the same lines are there only once -/
theorem Tx.Lines.uniq {t : Tx} : ∀ {l : List Ln} {f : Nat} {m : List Ln}, t.Lines f l → t.Lines f m → l = m
  | [], f, m, h, g => by
    have h : f = t.n := h
    subst h
    exact g.nil.symm
  | x :: r, f, m, h, g => by
    obtain ⟨d, h1, h2, h3⟩ := h
    obtain ⟨q, e, g2⟩ := g.cons h1
    rw [h2, e, h3.uniq g2]

theorem small_of (ws : List Int) (h : ws.all (fun x => decide (0 ≤ x) && decide (x ≤ 2)) = true) (hl : ws.length ≤ 4194304) : Small ws := by
  refine ⟨hl, fun k => ?_⟩
  by_cases hk : k < ws.length
  · have := List.all_eq_true.1 h (ws.getD k 0) (by
      rw [show ws.getD k 0 = ws[k] by simp [List.getD, hk]]
      exact List.getElem_mem hk)
    simpa using this
  · rw [getD_len (by omega)]; omega
theorem range_of (ss : List Int) (h : ss.all (fun x => decide (0 ≤ x) && decide (x ≤ 2)) = true) (j : Nat) : 0 ≤ ss.getD j 0 ∧ ss.getD j 0 ≤ 2 := by
  by_cases hk : j < ss.length
  · have := List.all_eq_true.1 h (ss.getD j 0) (by
      rw [show ss.getD j 0 = ss[j] by simp [List.getD, hk]]
      exact List.getElem_mem hk)
    simpa using this
  · rw [getD_len (by omega)]; omega
def t1 : Tx := ⟨[1, 1, 1, 1, 1], [1, 1, 9, 1, 1], 5, [0, 0, 0, 1, 0, 2], 2⟩
def t2 : Tx := ⟨[1, 1, 1], [1, 1, 1], 3, [0, 0, 0, 2], 2⟩
def t3 : Tx := ⟨[2], [30], 1, [0, 2], 1⟩
theorem t1_ok : t1.Ok := ⟨small_of _ (by decide) (by decide), by decide, by decide, by decide, range_of _ (by decide)⟩
theorem t2_ok : t2.Ok := ⟨small_of _ (by decide) (by decide), by decide, by decide, by decide, range_of _ (by decide)⟩
theorem t3_ok : t3.Ok := ⟨small_of _ (by decide) (by decide), by decide, by decide, by decide, range_of _ (by decide)⟩
theorem awake23 : law23_awake_F = some true := by
  unfold law23_awake_F law23_awake_T
  obtain ⟨l1, h1, g1⟩ := lines_F t1 t1_ok (by decide)
  obtain ⟨l2, h2, g2⟩ := lines_F t2 t2_ok (by decide)
  obtain ⟨l3, h3, g3⟩ := lines_F t3 t3_ok (by decide)
  obtain ⟨r1, e1, g1⟩ := g1.cons (f := 0) (e := 3) (Tx.endB_ok (by decide +kernel))
  obtain ⟨q1, e1', g1⟩ := g1.cons (f := 3) (e := 5) (Tx.endB_ok (by decide +kernel))
  have n1 := Tx.Lines.nil (t := t1) g1
  obtain ⟨r2, e2, g2⟩ := g2.cons (f := 0) (e := 2) (Tx.endB_ok (by decide +kernel))
  obtain ⟨q2, e2', g2⟩ := g2.cons (f := 2) (e := 3) (Tx.endB_ok (by decide +kernel))
  have n2 := Tx.Lines.nil (t := t2) g2
  obtain ⟨r3, e3, g3⟩ := g3.cons (f := 0) (e := 1) (Tx.endB_ok (by decide +kernel))
  have n3 := Tx.Lines.nil (t := t3) g3
  subst n1 n2 n3 e1' e2' e1 e2 e3
  refine Post.run (Post.bnd (of_F [1, 1, 1, 1, 1] [1, 1, 9, 1, 1] 5 (by decide) (by decide) (by decide) (by decide)) (Post.bnd h1 ?_))
  refine Post.bnd (of_F [1, 1, 1] [1, 1, 1] 3 (by decide) (by decide) (by decide) (by decide)) (Post.bnd h2 ?_)
  refine Post.bnd (of_F [2] [30] 1 (by decide) (by decide) (by decide) (by decide)) (Post.bnd h3 ?_)
  refine Post.brT rfl (Post.brT rfl (Post.brT rfl (Post.brT rfl ?_)))
  refine Post.bnd (idx_get (k := 0) rfl (by decide)) (Post.brT (by decide) ?_)
  refine Post.bnd (idx_get (k := 1) rfl (by decide)) (Post.brT (by decide) ?_)
  refine Post.brT rfl (Post.bnd (idx_get (k := 0) rfl (by decide)) (Post.brT (by decide) ?_))
  exact Post.brT rfl (Post.bnd (idx_get (k := 0) rfl (by decide)) (Post.pure (by decide)))

abbrev widB : ByteArray := ByteArray.mk #[119, 105, 100, 116, 104]
abbrev staB : ByteArray := ByteArray.mk #[115, 116, 97, 116, 117, 115]
theorem told_two (v : Int) : law02_Told_F (some (2, widB, v)) 2 widB v = some true := by
  unfold law02_Told_F law02_Told_T
  exact Post.run (Post.brF (by rfl) (Post.bnd (b := (widB, v)) rfl (Post.bnd (b := 2) rfl (Post.brT (by rfl) (Post.brT (by simp) (Post.pure (by simp)))))))
theorem told_six (v : Int) : law02_Told_F (some (6, staB, v)) 6 staB v = some true := by
  unfold law02_Told_F law02_Told_T
  exact Post.run (Post.brF (by rfl) (Post.bnd (b := (staB, v)) rfl (Post.bnd (b := 6) rfl (Post.brT (by rfl) (Post.brT (by simp) (Post.pure (by simp)))))))
theorem fillErrors_F (wn ns : List Int) (more w : Int) (h1 : wn.length ≤ 1048576) (h2 : ns.length ≤ 1048576) (h8 : ∀ n ∈ wn, 0 ≤ n ∧ n ≤ 255) (m8 : 0 ≤ more ∧ more ≤ 255) : law23_FillErrors_F wn ns more w = some true := by
  unfold law23_FillErrors_F law23_FillErrors_T
  obtain ⟨ws, hws, hs, hwl⟩ := widths_F wn (by omega) h8
  obtain ⟨cs, hcs, hcl⟩ := classes_F ns (by omega)
  obtain ⟨n, hn, hnw, hnc, _⟩ := min_nat ws cs
  obtain ⟨k, rfl⟩ : ∃ k : Nat, more = (k : Int) := ⟨more.toNat, by omega⟩
  refine Post.run (Post.bnd awake23 (Post.brF rfl (Post.bnd hws (Post.bnd hcs (Post.bnd (of_F ws cs n hnw hnc hn (by omega)) (Post.bnd (mk_eq (k := k) (wrap64 (by omega) (by omega)) (by omega)) ?_))))))
  have hw1 : IntKind.i64.wrap ((n : Int) + 1) = ((n + 1 : Nat) : Int) := wrap_succ (by omega)
  by_cases hw : w < 1
  · have : fill_Lines_F (rul ws cs n) (List.replicate k 0) w = some ([], some (2, widB, w)) := by
      unfold fill_Lines_F fill_Lines_T
      exact Post.run (Post.brT (decide_eq_true hw) (Post.bnd rfl (Post.pure rfl)))
    exact Post.bnd this (Post.brT (decide_eq_true hw) (Post.brT rfl (Post.bnd (told_two w) (Post.pure rfl))))
  · by_cases hk : k = n + 1
    · subst hk
      have ht : (Tx.mk ws cs n (List.replicate (n + 1) 0) w).Ok := ⟨hs, hnw, by show n ≤ _; omega, List.length_replicate .., fun j => by
        show 0 ≤ (List.replicate (n + 1) (0 : Int)).getD j 0 ∧ (List.replicate (n + 1) (0 : Int)).getD j 0 ≤ 2
        have : (List.replicate (n + 1) (0 : Int)).getD j 0 = 0 := by
          by_cases hj : j < n + 1
          · simp [List.getD, hj]
          · exact getD_len (by rw [List.length_replicate]; omega)
        rw [this]; omega⟩
      obtain ⟨l, hl1, _⟩ := lines_F _ ht (by show 1 ≤ w; omega)
      exact Post.bnd hl1 (Post.brF (decide_eq_false hw) (Post.bnd (count_F ws cs n) (Post.brF (by rw [hw1, List.length_replicate]; simp) (Post.pure rfl))))
    · have hne : (((List.replicate k (0 : Int)).length : Int) != ((n + 1 : Nat) : Int)) = true := by
        rw [List.length_replicate]
        simp only [bne_iff_ne, ne_eq]
        omega
      have : fill_Lines_F (rul ws cs n) (List.replicate k 0) w = some ([], some (6, staB, ((List.replicate k (0 : Int)).length : Int))) := by
        unfold fill_Lines_F fill_Lines_T
        exact Post.run (Post.brF (decide_eq_false hw) (Post.bnd (count_F ws cs n) (Post.brT (by rw [hw1]; exact hne) (Post.bnd rfl (Post.pure rfl)))))
      exact Post.bnd this (Post.brF (decide_eq_false hw) (Post.bnd (count_F ws cs n) (Post.brT (by rw [hw1]; exact hne) (Post.brT rfl (Post.bnd (told_six _) (Post.pure rfl))))))
theorem fillErrors_all (x : Tys.I [.sl (.int .u8), .sl (.int .u8), .int .u8, .int .i64]) (h : WfAll [.sl (.int .u8), .sl (.int .u8), .int .u8, .int .i64] x) (hb : bulkAll [.sl (.int .u8), .sl (.int .u8), .int .u8, .int .i64] x ≤ 1048576) : law23_FillErrors_F x.1 x.2.1 x.2.2.1 x.2.2.2.1 = some true := by
  simp only [bulkAll, bulk] at hb
  exact fillErrors_F _ _ _ _ (by omega) (by omega) (fun n hn => wf_u8 (h.1.2 n hn)) (wf_u8 h.2.2.1)

end Go.Proofs.YtafomgonecamlaaDoor
