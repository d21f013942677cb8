/-
  What the row of a part of a line holds: items that lie in it whole, blanks elsewhere.
-/
import Derived.Test.YtcbmacpdiiehjaaVwR
namespace Go.Proofs.Ytcbmacpdiiehjaa
set_option linter.all false

def sumW (ws : List Int) : Nat → Int
  | 0 => 0
  | k + 1 => sumW ws k + ws.getD k 0
/-- the glyphs without cells from a place on -/
def shF (gs ws : List Int) : Nat → Nat → List Int
  | 0, _ => []
  | b + 1, k => if ws.getD k 0 = 0 then gs.getD k 0 :: shF gs ws b (k + 1) else []
def sh (gs ws : List Int) (k : Nat) : List Int := shF gs ws (ws.length - k) k
theorem sh_end {gs ws : List Int} {k : Nat} (h : ws.length ≤ k) : sh gs ws k = [] := by unfold sh; rw [show ws.length - k = 0 by omega]; rfl
theorem sh_zero {gs ws : List Int} {k : Nat} (h : k < ws.length) (hw : ws.getD k 0 = 0) : sh gs ws k = gs.getD k 0 :: sh gs ws (k + 1) := by
  unfold sh
  rw [show ws.length - k = ws.length - (k + 1) + 1 by omega]
  exact if_pos hw
theorem sh_pos {gs ws : List Int} {k : Nat} (hw : ws.getD k 0 ≠ 0) : sh gs ws k = [] := by
  unfold sh
  cases ws.length - k with
  | zero => rfl
  | succ b => unfold shF; rw [if_neg hw]

structure SmallW (ws : List Int) : Prop where
  nn : ∀ k, 0 ≤ ws.getD k 0
  le : ∀ k, ws.getD k 0 ≤ 2

theorem sumW_mono {ws : List Int} (h : SmallW ws) {i : Nat} : ∀ {j : Nat}, i ≤ j → sumW ws i ≤ sumW ws j
  | 0, hi => by rw [show i = 0 by omega]; omega
  | j + 1, hi => by
    by_cases e : i = j + 1
    · subst e; omega
    · have := sumW_mono h (i := i) (j := j) (by omega)
      have := h.nn j
      show sumW ws i ≤ sumW ws j + ws.getD j 0
      omega
theorem sumW_next {ws : List Int} (h : SmallW ws) {i j : Nat} (hij : i < j) : sumW ws i + ws.getD i 0 ≤ sumW ws j := sumW_mono h (i := i + 1) hij
theorem sumW_bd {ws : List Int} (h : SmallW ws) : ∀ k, 0 ≤ sumW ws k ∧ sumW ws k ≤ 2 * k
  | 0 => by simp [sumW]
  | k + 1 => by
    have := sumW_bd h k
    have := h.nn k
    have := h.le k
    simp only [sumW]
    omega

def Ins (n : Nat) (fr : Int) (ws : List Int) (j : Nat) : Prop := 0 ≤ sumW ws j - fr ∧ sumW ws j - fr + ws.getD j 0 ≤ n
instance (n : Nat) (fr : Int) (ws : List Int) (j : Nat) : Decidable (Ins n fr ws j) := by unfold Ins; infer_instance
def Open (ws : List Int) (j k : Nat) : Prop := ∀ i, j < i → i < k → ws.getD i 0 = 0

structure VI (n : Nat) (fr : Int) (gs ws : List Int) (k : Nat) (row : List Cl) (last : Int) : Prop where
  len : row.length = n
  items : ∀ j, j < k → 0 < ws.getD j 0 → Ins n fr ws j → ∀ t : Nat, (t : Int) < ws.getD j 0 → ∃ tx : List Int, row[(sumW ws j - fr).toNat + t]? = some (tx, (j : Int), (t : Int)) ∧
    (t = 0 → (Open ws j k → tx ++ sh gs ws k = gs.getD j 0 :: sh gs ws (j + 1)) ∧ (¬ Open ws j k → tx = gs.getD j 0 :: sh gs ws (j + 1))) ∧ (0 < t → tx = [])
  blank : ∀ i : Nat, i < n → (∀ j, j < k → 0 < ws.getD j 0 → Ins n fr ws j → ¬ (sumW ws j - fr ≤ i ∧ (i : Int) < sumW ws j - fr + ws.getD j 0)) → row[i]? = some ([32], -1, 0)
  last : (∃ j, j < k ∧ 0 < ws.getD j 0 ∧ Open ws j k ∧ last = if Ins n fr ws j then sumW ws j - fr else n) ∨ ((∀ j, j < k → ws.getD j 0 = 0) ∧ last = n)

theorem VI.start (n : Nat) (fr : Int) (gs ws : List Int) : VI n fr gs ws 0 (List.replicate n ([32], -1, 0)) n := by
  refine ⟨by simp, fun j hj => by omega, fun i hi _ => by simp [hi], .inr ⟨fun j hj => by omega, rfl⟩⟩

theorem two_eq {ws : List Int} (h : SmallW ws) (k : Nat) : two (ws.getD k 0) = ws.getD k 0 := by
  have := h.le k
  unfold two
  rw [if_neg (by omega)]

theorem VI.step {n : Nat} {fr : Int} {gs ws : List Int} {k : Nat} {row : List Cl} {last : Int} (hs : SmallW ws) (hk : k < ws.length) (h : VI n fr gs ws k row last) :
    (stepR n fr (row, sumW ws k, last) k (gs.getD k 0) (ws.getD k 0)).2.1 = sumW ws (k + 1) ∧
    VI n fr gs ws (k + 1) (stepR n fr (row, sumW ws k, last) k (gs.getD k 0) (ws.getD k 0)).1 (stepR n fr (row, sumW ws k, last) k (gs.getD k 0) (ws.getD k 0)).2.2 := by
  have hw0 := hs.nn k
  have hw2 := hs.le k
  unfold stepR
  rw [two_eq hs]
  -- an elder item's row of cells lies ahead of this one's
  have ahead : ∀ j, j < k → sumW ws j + ws.getD j 0 ≤ sumW ws k := fun j hj => sumW_next hs hj
  by_cases hp : 0 < ws.getD k 0
  · rw [if_pos hp]
    dsimp only
    have hsh : sh gs ws k = [] := sh_pos (by omega)
    -- the elder items' texts are whole
    have elder : ∀ j, j < k → 0 < ws.getD j 0 → Ins n fr ws j → ∀ t : Nat, (t : Int) < ws.getD j 0 → ∃ tx : List Int, row[(sumW ws j - fr).toNat + t]? = some (tx, (j : Int), (t : Int)) ∧
        (t = 0 → tx = gs.getD j 0 :: sh gs ws (j + 1)) ∧ (0 < t → tx = []) := by
      intro j hj h1 h2 t ht
      obtain ⟨tx, e1, e2, e3⟩ := h.items j hj h1 h2 t ht
      refine ⟨tx, e1, fun e => ?_, e3⟩
      obtain ⟨e4, e5⟩ := e2 e
      by_cases ho : Open ws j k
      · have := e4 ho
        rw [hsh, List.append_nil] at this
        exact this
      · exact e5 ho
    have nopen : ∀ j, j < k → ¬ Open ws j (k + 1) := fun j hj ho => by have := ho k hj (by omega); omega
    refine ⟨rfl, ?_⟩
    by_cases hi : Ins n fr ws k
    · obtain ⟨i1, i2⟩ := hi
      obtain ⟨a, ha⟩ : ∃ a : Nat, sumW ws k - fr = a := ⟨(sumW ws k - fr).toNat, by omega⟩
      have hout : ¬ (sumW ws k - fr < 0 ∨ (row.length : Int) - ws.getD k 0 < sumW ws k - fr) := by rw [h.len]; omega
      -- what is laid
      have key : ∃ row2 : List Cl, putR row (sumW ws k - fr) (ws.getD k 0) k = (row2, (a : Int)) ∧ row2.length = n ∧ row2[a]? = some ([], (k : Int), 0) ∧
          (ws.getD k 0 = 2 → row2[a + 1]? = some ([], (k : Int), 1)) ∧ ∀ i : Nat, ¬ ((a : Int) ≤ i ∧ (i : Int) < a + ws.getD k 0) → row2[i]? = row[i]? := by
        unfold putR
        rw [if_neg hout]
        have hlen := h.len
        by_cases h1 : ws.getD k 0 = 1
        · rw [if_pos h1, ha, Int.toNat_natCast]
          refine ⟨_, rfl, by simp [h.len], by rw [List.getElem?_set_self (by omega)], fun e => by omega, fun i hi => by rw [List.getElem?_set_ne (by omega)]⟩
        · have h2 : ws.getD k 0 = 2 := by omega
          rw [if_neg h1, ha, Int.toNat_natCast]
          refine ⟨_, rfl, by simp [h.len], ?_, fun _ => by rw [List.getElem?_set_self (by simp; omega)], fun i hi => by rw [List.getElem?_set_ne (by omega), List.getElem?_set_ne (by omega)]⟩
          rw [List.getElem?_set_ne (by omega), List.getElem?_set_self (by omega)]
      obtain ⟨row2, e1, e2, e3, e4, e5⟩ := key
      rw [e1]
      dsimp only
      rw [if_pos (by omega)]
      have hadd : addR row2 (a : Int) (gs.getD k 0) = row2.set a ([gs.getD k 0], (k : Int), 0) := by
        unfold addR
        rw [Int.toNat_natCast, e3]
        rfl
      rw [hadd]
      have e6 : ∀ i : Nat, ¬ ((a : Int) ≤ i ∧ (i : Int) < a + ws.getD k 0) → (row2.set a ([gs.getD k 0], (k : Int), 0))[i]? = row[i]? := fun i hi => by
        rw [List.getElem?_set_ne (by omega)]; exact e5 i hi
      refine ⟨by simp [e2], fun j hj h1 h2 t ht => ?_, fun i hin hno => ?_, .inl ⟨k, by omega, hp, fun i a b => by omega, by rw [if_pos ⟨i1, i2⟩, ha]⟩⟩
      · by_cases e : j = k
        · subst e
          have ht2 : t = 0 ∨ (t = 1 ∧ ws.getD j 0 = 2) := by omega
          rcases ht2 with rfl | ⟨rfl, hw⟩
          · refine ⟨[gs.getD j 0], ?_, fun _ => ⟨fun _ => rfl, fun ho => absurd (fun i a b => by omega) ho⟩, fun h => by omega⟩
            rw [ha, Int.toNat_natCast, Nat.add_zero, List.getElem?_set_self (by omega)]
            rfl
          · refine ⟨[], ?_, fun h => by omega, fun _ => rfl⟩
            rw [ha, Int.toNat_natCast, List.getElem?_set_ne (by omega)]
            exact e4 hw
        · have hjk : j < k := by omega
          have := ahead j hjk
          obtain ⟨q1, q2⟩ := h2
          obtain ⟨tx, f1, f2, f3⟩ := elder j hjk h1 ⟨q1, q2⟩ t ht
          refine ⟨tx, ?_, fun e => ⟨fun ho => absurd ho (nopen j hjk), fun _ => f2 e⟩, f3⟩
          rw [e6 _ (by omega)]
          exact f1
      · rw [e6 i (by have := hno k (by omega) hp ⟨i1, i2⟩; omega)]
        exact h.blank i hin fun j hj h1 h2 => hno j (by omega) h1 h2
    · have hout : sumW ws k - fr < 0 ∨ (row.length : Int) - ws.getD k 0 < sumW ws k - fr := by
        rw [h.len]
        unfold Ins at hi
        omega
      have e1 : putR row (sumW ws k - fr) (ws.getD k 0) k = (row, (row.length : Int)) := by unfold putR; rw [if_pos hout]
      rw [e1]
      dsimp only
      rw [if_neg (by rw [h.len]; omega), h.len]
      refine ⟨h.len, fun j hj h1 h2 t ht => ?_, fun i hin hno => h.blank i hin fun j hj h1 h2 => hno j (by omega) h1 h2, .inl ⟨k, by omega, hp, fun i a b => by omega, by rw [if_neg hi]⟩⟩
      by_cases e : j = k
      · subst e; exact absurd h2 hi
      · have hjk : j < k := by omega
        obtain ⟨tx, f1, f2, f3⟩ := elder j hjk h1 h2 t ht
        exact ⟨tx, f1, fun e => ⟨fun ho => absurd ho (nopen j hjk), fun _ => f2 e⟩, f3⟩
  · have hz : ws.getD k 0 = 0 := by omega
    rw [if_neg hp]
    dsimp only
    have hsh : sh gs ws k = gs.getD k 0 :: sh gs ws (k + 1) := sh_zero hk hz
    refine ⟨by simp only [sumW]; omega, ?_⟩
    have op1 : ∀ j, Open ws j k → Open ws j (k + 1) := fun j ho i a b => by
      by_cases e : i = k
      · subst e; exact hz
      · exact ho i a (by omega)
    have op2 : ∀ j, Open ws j (k + 1) → Open ws j k := fun j ho i a b => ho i a (by omega)
    rcases h.last with ⟨j0, hj0, hp0, ho0, hl⟩ | ⟨hall, hl⟩
    · -- only the last item is open
      have only : ∀ j, j < k → 0 < ws.getD j 0 → j ≠ j0 → ¬ Open ws j k := fun j hj h1 hne ho => by
        rcases Nat.lt_or_ge j j0 with h' | h'
        · have := ho j0 h' hj0; omega
        · have := ho0 j (by omega) hj; omega
      by_cases hi0 : Ins n fr ws j0
      · rw [if_pos hi0] at hl
        have hi0' := hi0
        obtain ⟨i1, i2⟩ := hi0'
        obtain ⟨a, ha⟩ : ∃ a : Nat, sumW ws j0 - fr = a := ⟨(sumW ws j0 - fr).toNat, by omega⟩
        obtain ⟨tx0, f1, f2, f3⟩ := h.items j0 hj0 hp0 hi0 0 (by omega)
        rw [Nat.add_zero, ha, Int.toNat_natCast] at f1
        rw [if_pos (by omega)]
        have hadd : addR row last (gs.getD k 0) = row.set a (tx0 ++ [gs.getD k 0], (j0 : Int), ((0 : Nat) : Int)) := by
          unfold addR
          rw [hl, ha, Int.toNat_natCast, f1]
        rw [hadd]
        refine ⟨by simp [h.len], fun j hj h1 h2 t ht => ?_, fun i hin hno => ?_, .inl ⟨j0, by omega, hp0, op1 j0 ho0, by rw [if_pos hi0]; exact hl⟩⟩
        · have hjk : j < k := by
            rcases Nat.lt_or_ge j k with h' | h'
            · exact h'
            · have : j = k := by omega
              subst this; omega
          by_cases e : j = j0 ∧ t = 0
          · obtain ⟨rfl, rfl⟩ := e
            refine ⟨tx0 ++ [gs.getD k 0], ?_, fun _ => ⟨fun _ => ?_, fun ho => absurd (op1 j ho0) ho⟩, fun h => by omega⟩
            · rw [ha, Int.toNat_natCast, Nat.add_zero, List.getElem?_set_self (by rw [h.len]; omega)]
            · have := (f2 rfl).1 ho0
              rw [hsh] at this
              rw [List.append_assoc]
              exact this
          · obtain ⟨tx, g1, g2, g3⟩ := h.items j hjk h1 h2 t ht
            have hne : (sumW ws j - fr).toNat + t ≠ a := by
              obtain ⟨q1, q2⟩ := h2
              rcases Nat.lt_trichotomy j j0 with h' | h' | h'
              · have := sumW_next hs h'; omega
              · subst h'; omega
              · have := sumW_next hs h'; omega
            refine ⟨tx, by rw [List.getElem?_set_ne (fun e => hne e.symm)]; exact g1, fun e0 => ?_, g3⟩
            have hjne : j ≠ j0 := fun e1 => e ⟨e1, e0⟩
            have hno := only j hjk h1 hjne
            exact ⟨fun ho => absurd (op2 j ho) hno, fun _ => (g2 e0).2 hno⟩
        · have hne : i ≠ a := fun e => hno j0 (by omega) hp0 hi0 (by omega)
          rw [List.getElem?_set_ne (fun e => hne e.symm)]
          exact h.blank i hin fun j hj h1 h2 => hno j (by omega) h1 h2
      · rw [if_neg hi0] at hl
        rw [if_neg (by omega)]
        refine ⟨h.len, fun j hj h1 h2 t ht => ?_, fun i hin hno => h.blank i hin fun j hj h1 h2 => hno j (by omega) h1 h2, .inl ⟨j0, by omega, hp0, op1 j0 ho0, by rw [if_neg hi0]; exact hl⟩⟩
        have hjk : j < k := by
          rcases Nat.lt_or_ge j k with h' | h'
          · exact h'
          · have : j = k := by omega
            subst this; omega
        obtain ⟨tx, g1, g2, g3⟩ := h.items j hjk h1 h2 t ht
        have hno := only j hjk h1 (fun e => hi0 (e ▸ h2))
        exact ⟨tx, g1, fun e0 => ⟨fun ho => absurd (op2 j ho) hno, fun _ => (g2 e0).2 hno⟩, g3⟩
    · rw [if_neg (by omega)]
      refine ⟨h.len, fun j hj h1 h2 t ht => ?_, fun i hin hno => h.blank i hin fun j hj h1 h2 => hno j (by omega) h1 h2, .inr ⟨fun j hj => ?_, hl⟩⟩
      · rcases Nat.lt_or_ge j k with h' | h'
        · have := hall j h'; omega
        · have : j = k := by omega
          subst this; omega
      · rcases Nat.lt_or_ge j k with h' | h'
        · exact hall j h'
        · have : j = k := by omega
          subst this; exact hz

theorem VI.all {n : Nat} {fr : Int} {gs ws : List Int} (hs : SmallW ws) : ∀ k, k ≤ ws.length → (rowSt n fr gs ws k).2.1 = sumW ws k ∧ VI n fr gs ws k (rowSt n fr gs ws k).1 (rowSt n fr gs ws k).2.2
  | 0, _ => ⟨rfl, VI.start n fr gs ws⟩
  | k + 1, hk => by
    obtain ⟨h1, h2⟩ := VI.all (n := n) (fr := fr) (gs := gs) hs k (by omega)
    have h3 := VI.step hs (by omega : k < ws.length) h2
    rw [← h1] at h3
    show (stepR n fr (rowSt n fr gs ws k) k (gs.getD k 0) (ws.getD k 0)).2.1 = _ ∧ _
    exact ⟨h3.1, h3.2⟩

/-- what stands in each cell, at last -/
theorem row_item {n : Nat} {fr : Int} {gs ws : List Int} (hs : SmallW ws) {j : Nat} (hj : j < ws.length) (hp : 0 < ws.getD j 0) (hi : Ins n fr ws j) {t : Nat} (ht : (t : Int) < ws.getD j 0) :
    (rowSt n fr gs ws ws.length).1[(sumW ws j - fr).toNat + t]? = some (if t = 0 then gs.getD j 0 :: sh gs ws (j + 1) else [], (j : Int), (t : Int)) := by
  obtain ⟨tx, h1, h2, h3⟩ := (VI.all (n := n) (fr := fr) (gs := gs) hs ws.length (Nat.le_refl _)).2.items j hj hp hi t ht
  rw [h1]
  by_cases e : t = 0
  · rw [if_pos e]
    obtain ⟨h4, h5⟩ := h2 e
    by_cases ho : Open ws j ws.length
    · have := h4 ho
      rw [sh_end (Nat.le_refl _), List.append_nil] at this
      rw [this]
    · rw [h5 ho]
  · rw [if_neg e, h3 (by omega)]
theorem row_blank {n : Nat} {fr : Int} {gs ws : List Int} (hs : SmallW ws) {i : Nat} (hi : i < n) (h : ∀ j, j < ws.length → 0 < ws.getD j 0 → Ins n fr ws j → ¬ (sumW ws j - fr ≤ i ∧ (i : Int) < sumW ws j - fr + ws.getD j 0)) :
    (rowSt n fr gs ws ws.length).1[i]? = some ([32], -1, 0) := (VI.all (n := n) (fr := fr) (gs := gs) hs ws.length (Nat.le_refl _)).2.blank i hi h
theorem row_len {n : Nat} {fr : Int} {gs ws : List Int} : (rowSt n fr gs ws ws.length).1.length = n := (rowSt_inv n fr gs ws ws.length).1

end Go.Proofs.Ytcbmacpdiiehjaa
