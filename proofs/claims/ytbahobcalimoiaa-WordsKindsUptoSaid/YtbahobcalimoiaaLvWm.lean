/-
  Words: what both sides' loops make, as plain maths.
-/
import Derived.Test.YtbahobcalimoiaaLvCe
namespace Go.Proofs.Ytbahobcalimoiaa
set_option linter.all false

/-- a cluster is of one word with that before it -/
def jo (ks : List Int) (k : Nat) : Bool :=
  (ks.getD (k - 1) 0 == 1 && ks.getD k 0 == 1 || ks.getD (k - 1) 0 == 2 && ks.getD k 0 == 2) || (ks.getD (k - 1) 0 == 1 && ks.getD k 0 == 3 && decide (k + 1 < ks.length) && ks.getD (k + 1) 0 == 1) || (ks.getD (k - 1) 0 == 3 && ks.getD k 0 == 1 && decide (2 ≤ k) && ks.getD (k - 2) 0 == 1)
/-- the boundaries of words, behind so many clusters -/
def wb0 (n : Nat) : List Bool := ((List.replicate (n + 1) false).set 0 true).set n true
def wb (n : Nat) (ks : List Int) (l : List (Int × Int)) : Nat → List Bool
  | 0 => wb0 n
  | k + 1 => if k = 0 then wb0 n else (wb n ks l k).set (l.getD k (0, 0)).1.toNat (!jo ks k)
theorem wb_succ (n : Nat) (ks : List Int) (l : List (Int × Int)) (k : Nat) : wb n ks l (k + 1) = if k = 0 then wb0 n else (wb n ks l k).set (l.getD k (0, 0)).1.toNat (!jo ks k) := rfl
theorem wb_len (n : Nat) (ks : List Int) (l : List (Int × Int)) : ∀ k, (wb n ks l k).length = n + 1
  | 0 => by simp [wb, wb0]
  | k + 1 => by
    rw [wb_succ]
    split
    · simp [wb0]
    · rw [List.length_set]; exact wb_len n ks l k

theorem chain_at {B : List Bool} : ∀ {l : List (Int × Int)} {a b : Nat}, Chain B a l b → ∀ k, k < l.length → ∃ i j : Nat, l.getD k (0, 0) = ((i : Int), (j : Int)) ∧ a ≤ i ∧ i < j ∧ j ≤ b ∧ j < B.length ∧ B.getD j false = true ∧ (k = 0 → i = a) ∧ (0 < k → a < i ∧ B.getD i false = true)
  | [], _, _, _, k, hk => by cases hk
  | p :: l, a, b, h, k, hk => by
    obtain ⟨e, d, e2, g1, g2, g3, _, g5⟩ := h
    have hle := g5.le
    cases k with
    | zero => exact ⟨a, d, Prod.ext e e2, Nat.le_refl _, g1, hle, g2, g3, fun _ => rfl, fun h => absurd h (by decide)⟩
    | succ k =>
      obtain ⟨i, j, h1, h2, h3, h4, h5, h6, h7, h8⟩ := chain_at g5 k (by simpa using hk)
      refine ⟨i, j, by simpa using h1, by omega, h3, h4, h5, h6, fun h => absurd h (by simp), fun _ => ?_⟩
      by_cases ek : k = 0
      · rw [h7 ek]; exact ⟨g1, g3⟩
      · have := h8 (by omega)
        exact ⟨by omega, this.2⟩

theorem getD_set {l : List Bool} {i j : Nat} {b : Bool} (h : j < l.length) : (l.set i b).getD j false = if i = j then b else l.getD j false := by
  simp only [List.getD]
  by_cases e : i = j
  · subst e; rw [List.getElem?_set_self h, if_pos rfl]; rfl
  · rw [List.getElem?_set_ne e, if_neg e]
theorem wb_ends {B : List Bool} {n : Nat} {ks : List Int} {l : List (Int × Int)} (hc : Chain B 0 l n) : ∀ k, k ≤ l.length → (wb n ks l k).getD 0 false = true ∧ (wb n ks l k).getD n false = true ∧ ∀ i, i ≤ n → (wb n ks l k).getD i false = true → i = 0 ∨ i = n ∨ B.getD i false = true
  | 0, _ => by
    have h0 : ∀ i, i ≤ n → (wb n ks l 0).getD i false = if n = i then true else if 0 = i then true else false := fun i hi => by
      show (((List.replicate (n + 1) false).set 0 true).set n true).getD i false = _
      rw [getD_set (by simp; omega), getD_set (by simp; omega)]
      congr 2
      simp [List.getD, show i < n + 1 by omega]
    refine ⟨?_, ?_, fun i hi h => ?_⟩
    · rw [h0 0 (by omega)]; split <;> simp
    · rw [h0 n (by omega)]; simp
    · rw [h0 i hi] at h
      split at h
      · exact .inr (.inl (by omega))
      · split at h
        · exact .inl (by omega)
        · cases h
  | k + 1, hk => by
    by_cases e : k = 0
    · subst e
      exact wb_ends (ks := ks) hc 0 (by omega)
    · obtain ⟨h1, h2, h3⟩ := wb_ends (ks := ks) hc k (by omega)
      obtain ⟨i, j, e1, g1, g2, g3, g4, g5, _, g6⟩ := chain_at hc k (by omega)
      obtain ⟨g6, g7⟩ := g6 (by omega)
      have hl := wb_len n ks l k
      rw [wb_succ, if_neg e, e1]
      dsimp only
      rw [Int.toNat_natCast]
      refine ⟨?_, ?_, fun m hm => ?_⟩
      · rw [getD_set (by omega), if_neg (by omega)]; exact h1
      · rw [getD_set (by omega), if_neg (by omega)]; exact h2
      · rw [getD_set (by omega)]
        split
        · rename_i em; subst em; exact fun _ => .inr (.inr g7)
        · exact h3 m hm
/-- what lies at a cluster's begin -/
theorem wb_at {B : List Bool} {n : Nat} {ks : List Int} {l : List (Int × Int)} (hc : Chain B 0 l n) (i : Nat) (hi : 0 < i) : ∀ k, k ≤ l.length → (∀ m, 0 < m → m < k → (l.getD m (0, 0)).1 ≠ (i : Int)) → i < n → (wb n ks l k).getD i false = false
  | 0, _, _, hin => by
    show (((List.replicate (n + 1) false).set 0 true).set n true).getD i false = _
    rw [getD_set (by simp; omega), getD_set (by simp; omega), if_neg (by omega), if_neg (by omega)]
    simp [List.getD, show i < n + 1 by omega]
  | k + 1, hk, hno, hin => by
    have ih := wb_at (ks := ks) hc i hi k (by omega) (fun m h1 h2 => hno m h1 (by omega)) hin
    rw [wb_succ]
    split
    · exact wb_at (ks := ks) hc i hi 0 (by omega) (fun m h1 h2 => by omega) hin
    · rename_i e
      obtain ⟨a, j, e1, g1, g2, g3, _⟩ := chain_at hc k (by omega)
      have hne := hno k (by omega) (by omega)
      rw [e1] at hne ⊢
      dsimp only at hne ⊢
      rw [Int.toNat_natCast, getD_set (by rw [wb_len]; omega), if_neg (by omega)]
      exact ih

/-! ### letters and spaces -/
theorem chain_single {B : List Bool} {n : Nat} (hB : ∀ i, i ≤ n → B.getD i false = true) : ∀ {l : List (Int × Int)} {a : Nat}, Chain B a l n → l.length + a = n ∧ ∀ k, k < l.length → l.getD k (0, 0) = (((a + k : Nat) : Int), ((a + k + 1 : Nat) : Int))
  | [], a, h => by
    have h : a = n := h
    exact ⟨by simp [h], fun k hk => by cases hk⟩
  | p :: l, a, h => by
    obtain ⟨e, d, e2, g1, g2, g3, g4, g5⟩ := h
    have hle := g5.le
    have ed : d = a + 1 := by
      by_cases q : d = a + 1
      · exact q
      · have := g4 (a + 1) (by omega) (by omega)
        rw [hB _ (by omega)] at this
        cases this
    subst ed
    obtain ⟨h1, h2⟩ := chain_single hB g5
    refine ⟨by simp only [List.length_cons]; omega, fun k hk => ?_⟩
    cases k with
    | zero => exact Prod.ext e e2
    | succ k =>
      have := h2 k (by simpa using hk)
      rw [show (p :: l).getD (k + 1) (0, 0) = l.getD k (0, 0) from rfl, this]
      congr 2 <;> omega
theorem wb_single {n : Nat} {ks : List Int} {l : List (Int × Int)} (hl : l.length = n) (h : ∀ k, k < l.length → l.getD k (0, 0) = ((k : Int), ((k + 1 : Nat) : Int))) : ∀ k, k ≤ n → ∀ i, 0 < i → i < k → (wb n ks l k).getD i false = !jo ks i
  | 0, _, i, _, hi => by omega
  | k + 1, hk, i, h0, hi => by
    rw [wb_succ, if_neg (by omega), h k (by omega)]
    dsimp only
    rw [Int.toNat_natCast, getD_set (by rw [wb_len]; omega)]
    split
    · rename_i e; subst e; rfl
    · exact wb_single hl h k (by omega) i h0 (by omega)
/-- how often it changes -/
def ch (f : Nat → Bool) : Nat → Nat
  | 0 => 0
  | i + 1 => ch f i + (if f i = f (i + 1) then 0 else 1)
theorem ch_congr {f g : Nat → Bool} : ∀ {i : Nat}, (∀ j, j ≤ i → f j = g j) → ch f i = ch g i
  | 0, _ => rfl
  | i + 1, h => by
    show ch f i + _ = ch g i + _
    rw [ch_congr (i := i) (fun j hj => h j (by omega)), h i (by omega), h (i + 1) (by omega)]
theorem trues_ch {W : List Bool} {f : Nat → Bool} : ∀ {i : Nat}, (∀ j, j < i → W.getD (j + 1) false = !(f j == f (j + 1))) → trues W i = ch f i
  | 0, _ => rfl
  | i + 1, h => by
    show trues W i + _ = ch f i + _
    rw [trues_ch (i := i) (fun j hj => h j (by omega)), h i (by omega)]
    cases f i <;> cases f (i + 1) <;> rfl
theorem ch_flat {f : Nat → Bool} {a : Nat} : ∀ {m : Nat}, (∀ j, a ≤ j → j ≤ a + m → f j = f a) → ch f (a + m) = ch f a
  | 0, _ => rfl
  | m + 1, h => by
    show ch f (a + m) + (if f (a + m) = f (a + m + 1) then 0 else 1) = _
    rw [ch_flat (m := m) (fun j h1 h2 => h j h1 (by omega)), h (a + m) (by omega) (by omega), h (a + m + 1) (by omega) (by omega), if_pos rfl]
    rfl
/-- words of so many letters, with spaces between them -/
def wt (ns : List Int) : Nat → List Int
  | 0 => []
  | k + 1 => wt ns k ++ ((if k = 0 then [] else [32]) ++ List.replicate ((ns.getD k 0 % 5).toNat + 1) (97 + ns.getD k 0 % 26))
def sp (rs : List Int) (i : Nat) : Bool := rs.getD i 0 == 32
theorem sp_left {a b : List Int} {i : Nat} (h : i < a.length) : sp (a ++ b) i = sp a i := by
  unfold sp
  simp only [List.getD]
  rw [List.getElem?_append_left h]
theorem sp_right {a b : List Int} {i : Nat} (h : a.length ≤ i) : sp (a ++ b) i = sp b (i - a.length) := by
  unfold sp
  simp only [List.getD]
  rw [List.getElem?_append_right h]
theorem sp_rep {m : Nat} {x : Int} (hx : x ≠ 32) {i : Nat} (hi : i < m) : sp (List.replicate m x) i = false := by
  unfold sp
  simp [List.getD, hi, hx]
theorem wt_mem (ns : List Int) (h8 : ∀ k, 0 ≤ ns.getD k 0) : ∀ k, ∀ r ∈ wt ns k, r = 32 ∨ (97 ≤ r ∧ r ≤ 122)
  | 0, r, h => by cases h
  | k + 1, r, h => by
    have h8 := h8 k
    rcases List.mem_append.1 h with h | h
    · exact wt_mem ns ‹_› k r h
    · rcases List.mem_append.1 h with h | h
      · split at h
        · cases h
        · simp at h; exact .inl h
      · have := List.eq_of_mem_replicate h
        right; omega
theorem wt_ch (ns : List Int) (h8 : ∀ k, 0 ≤ ns.getD k 0) : ∀ k, ∃ e, (wt ns (k + 1)).length = e + 1 ∧ sp (wt ns (k + 1)) e = false ∧ ch (sp (wt ns (k + 1))) e = 2 * k
  | 0 => by
    have h8 := h8 0
    have e : wt ns 1 = List.replicate ((ns.getD 0 0 % 5).toNat + 1) (97 + ns.getD 0 0 % 26) := by simp [wt]
    rw [e]
    generalize (ns.getD 0 0 % 5).toNat = m
    refine ⟨m, by simp, sp_rep (by omega) (by omega), ?_⟩
    have := ch_flat (f := sp (List.replicate (m + 1) (97 + ns.getD 0 0 % 26))) (a := 0) (m := m) (fun j _ hj => by rw [sp_rep (by omega) (by omega), sp_rep (by omega) (by omega)])
    rw [Nat.zero_add] at this
    rw [this]
    rfl
  | k + 1 => by
    obtain ⟨e, h1, h2, h3⟩ := wt_ch ns h8 k
    have h8 := h8 (k + 1)
    have ew : wt ns (k + 2) = wt ns (k + 1) ++ ([32] ++ List.replicate ((ns.getD (k + 1) 0 % 5).toNat + 1) (97 + ns.getD (k + 1) 0 % 26)) := rfl
    rw [ew]
    generalize (ns.getD (k + 1) 0 % 5).toNat = m
    generalize hx : 97 + ns.getD (k + 1) 0 % 26 = x
    have hx32 : x ≠ 32 := by omega
    generalize wt ns (k + 1) = T at *
    have s1 : ∀ i, i ≤ e → sp (T ++ ([32] ++ List.replicate (m + 1) x)) i = sp T i := fun i hi => sp_left (by omega)
    have s2 : sp (T ++ ([32] ++ List.replicate (m + 1) x)) (e + 1) = true := by
      rw [sp_right (by omega), h1, Nat.sub_self]; rfl
    have s3 : ∀ i, e + 2 ≤ i → i ≤ e + 2 + m → sp (T ++ ([32] ++ List.replicate (m + 1) x)) i = false := fun i hi hi2 => by
      rw [sp_right (by omega), sp_right (by simp; omega)]
      exact sp_rep hx32 (by simp; omega)
    refine ⟨e + 2 + m, by simp; omega, s3 _ (by omega) (by omega), ?_⟩
    rw [ch_flat (fun j hj1 hj2 => by rw [s3 j hj1 hj2, s3 (e + 2) (by omega) (by omega)])]
    show ch _ e + _ + _ = _
    rw [ch_congr s1, h3, s1 e (Nat.le_refl _), h2, s2, if_neg (by simp), s3 (e + 2) (by omega) (by omega), if_neg (by simp)]
    omega

end Go.Proofs.Ytbahobcalimoiaa
